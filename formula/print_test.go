package formula_test

import (
	"math"
	"slices"
	"strings"
	"testing"

	"quantale/api"
)

func TestPrint(t *testing.T) {
	for _, k := range []struct {
		n    api.Node
		want string
	}{
		{op(api.And, a, b), "(a && b)"},
		{op(api.Or, a, b), "(a || b)"},
		{op(api.Imp, a, b), "(a => b)"},
		{op(api.Iff, a, b), "(a <=> b)"},
		{op(api.Eq, a, b), "(a = b)"},
		{op(api.Le, a, b), "(a <= b)"},
		{op(api.Lt, a, b), "(a < b)"},
		{op(api.Mem, a, b), "(a in b)"},
		{op(api.Subset, a, b), "(a sub b)"},
		{op(api.Add, a, b), "(a + b)"},
		{op(api.Sub, a, b), "(a - b)"},
		{not(a), "(!a)"},
		{not(op(api.Eq, a, b)), "(!(a = b))"},
		{not(not(a)), "(!(!a))"},
		{isTrue(), "true"},
		{op(api.False), "false"},
		{op(api.Empty), "empty"},
		{op(api.Sing, a), "sing(a)"},
		{op(api.Cup, a, b), "cup(a, b)"},
		{op(api.Cap, a, b), "cap(a, b)"},
		{op(api.Minus, a, b), "diff(a, b)"},
		{op(api.Sel, a, x), "sel(a, x)"},
		{op(api.Sto, a, x, y), "sto(a, x, y)"},
		{op(api.Len, a), "vlen(a)"},
		{op(api.Ite, c, a, b), "ite(c, a, b)"},
		{x, "x"},
		{v("z.0"), "z.0"},
		{app("f"), "f()"},
		{app("f", x), "f(x)"},
		{app("f", x, op(api.Add, x, y), app("g")), "f(x, (x + y), g())"},
		{app("f", x, x, x, x, x, x, x, x), "f(x, x, x, x, x, x, x, x)"},
		{op(api.Le, op(api.Add, x, num(1)), y), "((x + 1) <= y)"},
		{op(api.And, op(api.And, a, b), op(api.And, b, c)), "((a && b) && (b && c))"},
		{op(api.Mem, num(-1), op(api.Cup, op(api.Sing, num(2)), op(api.Empty))), "((-1) in cup(sing(2), empty))"},
		{op(api.Ite, op(api.Eq, isTrue(), a), op(api.Sel, op(api.Sto, a, x, y), x), op(api.Len, a)), "ite((true = a), sel(sto(a, x, y), x), vlen(a))"},
	} {
		expectPrint(t, k.n, k.want)
		if strings.Contains(k.want, "a") {
			k.n.Kids = slices.Clone(k.n.Kids)
			for i := range k.n.Kids {
				if k.n.Kids[i].Op == api.Var {
					k.n.Kids[i].Sort = api.SSet
				}
			}
			expectPrint(t, k.n, k.want)
		}
	}
	for sort := range api.SArr + 1 {
		expectPrint(t, api.Node{Op: api.Var, Name: "x", Sort: sort}, "x")
		expectPrint(t, api.Node{Op: api.App, Name: "f", Sort: sort, Kids: []api.Node{num(1)}}, "f(1)")
	}
}

func TestPrintNumbers(t *testing.T) {
	for _, k := range []struct {
		n    api.Node
		want string
	}{
		{num(0), "0"},
		{num(3), "3"},
		{num(-3), "(-3)"},
		{num(api.MaxNum), "1000000000000"},
		{num(-api.MaxNum), "(-1000000000000)"},
		{neg(x), "(-x)"},
		{neg(num(3)), "(-(3))"},
		{neg(num(0)), "(-(0))"},
		{neg(num(api.MaxNum)), "(-(1000000000000))"},
		{neg(num(-3)), "(-(-3))"},
		{neg(neg(num(3))), "(-(-(3)))"},
		{neg(neg(x)), "(-(-x))"},
		{neg(op(api.Add, num(3), x)), "(-(3 + x))"},
		{scale(3, x), "(3 * x)"},
		{scale(0, x), "(0 * x)"},
		{scale(-3, x), "(-(3 * x))"},
		{scale(-1, num(-1)), "(-(1 * (-1)))"},
		{scale(3, num(4)), "(3 * 4)"},
		{scale(3, num(-4)), "(3 * (-4))"},
		{scale(3, neg(num(4))), "(3 * (-(4)))"},
		{scale(2, scale(-3, x)), "(2 * (-(3 * x)))"},
		{scale(-2, scale(-3, x)), "(-(2 * (-(3 * x))))"},
		{neg(scale(3, x)), "(-(3 * x))"},
		{neg(scale(-3, x)), "(-(-(3 * x)))"},
		{scale(api.MaxNum, x), "(1000000000000 * x)"},
		{scale(-api.MaxNum, x), "(-(1000000000000 * x))"},
		{op(api.Sub, x, num(-3)), "(x - (-3))"},
		{app("f", num(-3), scale(-3, x)), "f((-3), (-(3 * x)))"},
	} {
		expectPrint(t, k.n, k.want)
	}
}

// kidsOf is the number of kids that each operator with a text takes.
func kidsOf() map[int]int {
	m := map[int]int{}
	for count, ops := range [][]int{
		{api.Var, api.Int, api.True, api.False, api.Empty},
		{api.Not, api.Neg, api.Scale, api.Sing, api.Len},
		{api.And, api.Or, api.Imp, api.Iff, api.Eq, api.Le, api.Lt, api.Mem, api.Subset, api.Add, api.Sub, api.Cup, api.Cap, api.Minus, api.Sel},
		{api.Ite, api.Sto},
	} {
		for _, o := range ops {
			m[o] = count
		}
	}
	return m
}

// example is a node of an operator with kids, and a name if it needs one.
func example(o, kids int) api.Node {
	n := op(o, slices.Repeat([]api.Node{x}, kids)...)
	if o == api.Var || o == api.App {
		n.Name = "f"
	}
	return n
}

func TestPrintKids(t *testing.T) {
	table := kidsOf()
	for o := -1; o <= 45; o++ {
		want, known := table[o]
		for kids := range 11 {
			n := example(o, kids)
			fits := known && kids == want || o == api.App && kids <= api.MaxArgs
			for _, n := range []api.Node{n, op(api.Eq, x, n), app("f", n)} {
				if !fits {
					expectNoPrint(t, n, api.ErrForm)
				} else if text := printed(t, n); text == "" {
					t.Errorf("P2.2: %v has no text", n)
				}
			}
		}
	}
	hole := api.Node{Op: api.Hole, Num: 3, Kids: []api.Node{x}}
	for _, n := range []api.Node{{}, hole, op(api.And, a, hole), not(hole), {Op: math.MaxInt}, {Op: math.MinInt}} {
		expectNoPrint(t, n, api.ErrForm)
	}
}

func TestPrintFields(t *testing.T) {
	table := kidsOf()
	table[api.App] = 2
	for o, kids := range table {
		n := example(o, kids)
		named := o == api.Var || o == api.App
		counts := o == api.Int || o == api.Scale
		for _, m := range []int64{-api.MaxNum - 1, -api.MaxNum, -7, 1, api.MaxNum, api.MaxNum + 1, math.MaxInt64, math.MinInt64} {
			n := n
			n.Num = m
			if counts && m >= -api.MaxNum && m <= api.MaxNum {
				printed(t, n)
			} else {
				expectNoPrint(t, n, api.ErrForm)
			}
		}
		for _, name := range []string{"", "x", "z.0", strings.Repeat("a", api.MaxLong), strings.Repeat("a", api.MaxLong+1), "true", "in", "cup", "empty", "ite",
			"a b", ".", "1", "a_", "a\u00e9", "x)"} {
			n := n
			n.Name = name
			ok := name == "x" || name == "z.0" || len(name) == api.MaxLong
			if named && ok || !named && name == "" {
				printed(t, n)
			} else {
				expectNoPrint(t, n, api.ErrForm)
			}
		}
		for _, sort := range []int{-1, 1, 5, 6} {
			n := n
			n.Sort = sort
			if named && sort > 0 && sort < 6 {
				printed(t, n)
			} else {
				expectNoPrint(t, n, api.ErrForm)
			}
		}
	}
}

func TestPrintLimits(t *testing.T) {
	for _, o := range []int{api.Neg, api.Not, api.Sing} {
		text := printed(t, chain(o, api.MaxNest-1, x))
		if !strings.Contains(text, "x") {
			t.Errorf("P2.2: %q", text)
		}
		expectNoPrint(t, chain(o, api.MaxNest, x), api.ErrLimit)
	}
	const size = api.MaxNodes - 1
	if text := printed(t, not(sized(size, isTrue()))); strings.Count(text, "true") != api.MaxNodes/2 {
		t.Errorf("P2.2: %d", len(text))
	}
	// a text may be longer than MaxText
	if text := printed(t, sized(size, v(strings.Repeat("a", api.MaxLong)))); len(text) != api.MaxLong*2000+6*1999 {
		t.Errorf("P2.2: %d", len(text))
	}
	// limits come before forms
	for _, leaf := range []api.Node{x, {}, {Op: api.Hole}, num(api.MaxNum + 1)} {
		expectNoPrint(t, sized(api.MaxNodes+1, leaf), api.ErrLimit)
		expectNoPrint(t, chain(api.Neg, api.MaxNest, leaf), api.ErrLimit)
		expectNoPrint(t, chain(99, api.MaxNest, leaf), api.ErrLimit)
	}
	// a tree that shares its parts is small in memory, but not in nodes
	n := a
	for range api.MaxNest - 1 {
		n = op(api.And, n, n)
	}
	expectNoPrint(t, n, api.ErrLimit)
}
