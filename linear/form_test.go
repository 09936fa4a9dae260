package linear_test

import (
	"fmt"
	"testing"

	"quantale/api"
	"quantale/linear"
	"quantale/logic"
)

func TestAtom(t *testing.T) {
	for _, text := range []string{"x", "u", "f(x)", "f(x + 1)", "f(f(2 * y))", "nil", "cons(1, u)", "len(cons(1 + x, nil))", "of(p)", "of(x < y)",
		"sel(a, 0)", "sel(sto(a, 1, x), x + y)", "vlen(a)", "ite(p, 1, 2)", "ite(x < y, x, x + y)", "ite(p, u, w)"} {
		if n := read(t, text); !linear.Atom(n) {
			t.Errorf("P4: %s is an atom", text)
		}
	}
	for _, text := range []string{"0", "7", "-7", "x + y", "x - y", "-x", "2 * x", "1 * x", "0 * x", "p", "true", "x <= y", "x = y", "is(u)", "s", "empty", "sing(x)", "cup(s, s)",
		"ite(p, s, s)", "a", "sto(a, 1, 2)", "ite(p, a, a)"} {
		if n := read(t, text); linear.Atom(n) {
			t.Errorf("P4: %s is no atom", text)
		}
	}
	for _, name := range []string{"x", "z.0", "Abc9"} {
		for sort := -1; sort <= 6; sort++ {
			want := sort == api.SInt || sort == api.SObj
			if linear.Atom(variable(name, sort)) != want || linear.Atom(call(name, sort, x)) != want {
				t.Errorf("P4: %s of sort %d", name, sort)
			}
		}
	}
}

// wrong has nodes that logic.Check does not accept, the error of each, though some have the sort of integers.
func wrong() map[api.Errno][]api.Node {
	return map[api.Errno][]api.Node{
		api.ErrForm: {{}, variable("", api.SInt), variable("true", api.SInt), variable("a b", api.SInt), variable("x", 0), node(99), node(-1), call("f", 0, x),
			{Op: api.Var, Name: "x", Sort: api.SInt, Num: 1}, {Op: api.Var, Name: "x", Sort: api.SInt, Kids: []api.Node{x}},
			call("f", api.SInt, node(api.Add, x)), call("f", api.SInt, node(99)), call("f", api.SInt, num(api.MaxNum+1)), call("f", api.SInt, scale(-api.MaxNum-1, x)),
			call("f", api.SInt, x, variable("x", api.SObj)), call("f", api.SInt, call("c", api.SInt), variable("c", api.SInt)),
			node(api.Len), node(api.Len, x), node(api.Sel, variable("a", api.SArr)), node(api.Ite, x, x, x), node(api.Ite, x, y), node(api.Add), node(api.Add, x), node(api.Add, x, u),
			node(api.Neg), node(api.Neg, u), node(api.Scale), node(api.Sub, x, x, x), num(api.MaxNum + 1), scale(api.MaxNum+1, x), node(api.Add, x, variable("x", api.SObj)),
			node(api.Le, x), node(api.Eq, x, u), node(api.Not, x),
			call("f", api.SInt, x, x, x, x, x, x, x, x, x)},
		api.ErrLimit: {chain(api.Neg, api.MaxNest, x), call("f", api.SInt, chain(api.Neg, api.MaxNest-1, x)), doubled(11, x), call("f", api.SInt, doubled(11, x)), doubled(90, x),
			call("f", api.SInt, doubled(90, x)), chain(99, api.MaxNest, x), chain(api.Not, api.MaxNest, node(api.True))},
	}
}

func TestAtomOfWrongNodes(t *testing.T) {
	for _, l := range wrong() {
		for k, n := range l {
			if linear.Atom(n) {
				t.Errorf("P4: %d: %v is no atom", k, n.Op)
			}
		}
	}
	// At the limits of logic.Check.
	if !linear.Atom(call("f", api.SInt, chain(api.Neg, api.MaxNest-2, x))) || !linear.Atom(call("f", api.SInt, doubled(10, x))) {
		t.Error("P4: an atom may be as great as logic.Check lets it")
	}
}

func TestValid(t *testing.T) {
	f, g := call("f", api.SInt, x), call("g", api.SInt, x)
	for k, l := range []api.Lin{
		{}, lin(0), lin(1), lin(-5), {Monos: []api.Mono{}, Const: 3}, lin(great), lin(-great), lin(0, mono(1, x)), lin(3, mono(great, x)), lin(3, mono(-great, x)), lin(0, mono(-1, x), mono(7, y), mono(2, z)),
		lin(0, mono(1, x), mono(1, u)), lin(0, mono(1, x), mono(1, f), mono(1, g)), lin(0, mono(1, f), mono(1, call("f", api.SInt, y))), lin(0, mono(3, u)),
		lin(0, mono(1, variable("x", api.SInt)), mono(1, variable("x", api.SObj))), lin(0, mono(1, variable("c", api.SInt)), mono(1, call("c", api.SInt))), wide(3000, -great, -great),
	} {
		if !linear.Valid(l) {
			t.Errorf("P4: case %d is a form", k)
		}
	}
	for k, l := range []api.Lin{
		lin(great + 1), lin(-great - 1), lin(1<<63 - 1), lin(-1 << 63), lin(0, mono(0, x)), lin(0, mono(great+1, x)), lin(0, mono(-great-1, x)), lin(0, mono(-1<<63, x)), lin(0, mono(1<<63-1, x)),
		lin(0, mono(1, x), mono(1, x)), lin(0, mono(1, x), mono(-1, x)), lin(0, mono(1, y), mono(1, x)), lin(0, mono(1, x), mono(1, z), mono(1, y)), lin(0, mono(1, u), mono(1, x)),
		lin(0, mono(1, f), mono(1, x)), lin(0, mono(1, x), mono(0, y), mono(1, z)), lin(0, mono(1, x), mono(1, y), mono(great+1, z)),
		lin(0, mono(1, num(1))), lin(0, mono(1, x), mono(1, node(api.Add, x, y))), lin(0, mono(1, scale(1, x))), lin(0, mono(1, node(api.Neg, x))), lin(0, mono(1, variable("s", api.SSet))),
		lin(0, mono(1, variable("p", api.SBool))), lin(0, mono(1, node(api.True))),
	} {
		if linear.Valid(l) {
			t.Errorf("P4: case %d is no form", k)
		}
	}
	for _, l := range wrong() {
		for k, n := range l {
			if linear.Valid(lin(0, mono(1, n))) || linear.Valid(lin(0, mono(1, x), mono(1, n), mono(1, n))) || linear.Valid(lin(0, mono(1, n), mono(1, n))) {
				t.Errorf("P4: a form of %d: %v", k, n.Op)
			}
		}
	}
}

func expectOf(t *testing.T, n api.Node, want api.Lin) {
	t.Helper()
	got, e := linear.Of(n)
	if e != api.OK || !same(got, want) {
		t.Errorf("P4.1: Of(%v) is %v, %d, not %v", n, got, e, want)
	}
	if !linear.Valid(got) {
		t.Errorf("P4.1: Of(%v) is not valid: %v", n, got)
	}
}

func expectNoOf(t *testing.T, n api.Node, want api.Errno) {
	t.Helper()
	if got, e := linear.Of(n); e != want || got.Const != 0 || len(got.Monos) != 0 {
		t.Errorf("P4.1: Of(%v) is %v, %d, not error %d", n, got, e, want)
	}
}

func TestOf(t *testing.T) {
	fx := read(t, "f(x + 1)")
	for text, want := range map[string]api.Lin{
		"0": lin(0), "7": lin(7), "-7": lin(-7), "1000000000000": lin(api.MaxNum), "x": lin(0, mono(1, x)), "-x": lin(0, mono(-1, x)), "-(-x)": lin(0, mono(1, x)), "3 * x": lin(0, mono(3, x)),
		"-3 * x": lin(0, mono(-3, x)), "0 * x": lin(0), "1 * x": lin(0, mono(1, x)), "x + y": lin(0, mono(1, x), mono(1, y)), "y + x": lin(0, mono(1, x), mono(1, y)), "x - y": lin(0, mono(1, x), mono(-1, y)),
		"y - x": lin(0, mono(-1, x), mono(1, y)), "x - x": lin(0), "x + x": lin(0, mono(2, x)), "x + y - x": lin(0, mono(1, y)), "x + 1 - 1": lin(0, mono(1, x)), "x + (1 + 2) - -4": lin(7, mono(1, x)),
		"2 * (x + 3 * (y - 2))": lin(-12, mono(2, x), mono(6, y)), "-(x - y + 5)": lin(-5, mono(-1, x), mono(1, y)), "z + y + x": lin(0, mono(1, x), mono(1, y), mono(1, z)),
		"x + z + (y + z)": lin(0, mono(1, x), mono(1, y), mono(2, z)), "x + z - (y - 2 * z)": lin(0, mono(1, x), mono(-1, y), mono(3, z)), "x + y - (y + z)": lin(0, mono(1, x), mono(-1, z)),
		"f(x + 1) + x": lin(0, mono(1, x), mono(1, fx)), "f(x + 1) - f(1 + x)": lin(0, mono(1, fx), mono(-1, read(t, "f(1 + x)"))), "f(x + 1) - f(x + 1)": lin(0), "3 * f(x + 1) - 2 * f(x + 1)": lin(0, mono(1, fx)),
		"len(u) + 1": lin(1, mono(1, read(t, "len(u)"))), "u": lin(0, mono(1, u)), "nil": lin(0, mono(1, read(t, "nil"))), "cons(x + 1, u)": lin(0, mono(1, read(t, "cons(x + 1, u)"))),
		"ite(p, u, w)": lin(0, mono(1, read(t, "ite(p, u, w)"))), "ite(p, x, 1 + 1) + 2": lin(2, mono(1, read(t, "ite(p, x, 1 + 1)"))), "2 * sel(a, x + x) - vlen(a)": lin(0, mono(2, read(t, "sel(a, x + x)")), mono(-1, read(t, "vlen(a)"))),
		"0 * (x + y) + z": lin(0, mono(1, z)), "1000000 * 1000000": lin(1e12), "of(x = y)": lin(0, mono(1, read(t, "of(x = y)"))),
	} {
		expectOf(t, read(t, text), want)
	}
}

// A form is sorted by the order of logic, in which variables stand ahead of applications, and these ahead of other terms.
func TestOfOrder(t *testing.T) {
	l := []api.Node{variable("X", 1), x, y, variable("z9", 1), call("f", 1, y), call("f", 1, num(1)), call("f", 1, x, x), call("g", 1), node(api.Ite, node(api.True), x, y), node(api.Sel, variable("a", 5), x), node(api.Len, variable("a", 5))}
	want := lin(0)
	for k, n := range l {
		if k > 0 && logic.Compare(l[k-1], n) >= 0 {
			t.Fatalf("atom %d stands in a wrong place", k)
		}
		want.Monos = append(want.Monos, mono(int64(k+1), n))
	}
	up, down := num(0), num(0)
	for k := range l {
		up = node(api.Add, up, scale(int64(k+1), l[k]))
		down = node(api.Add, down, scale(int64(len(l)-k), l[len(l)-1-k]))
	}
	expectOf(t, up, want)
	expectOf(t, down, want)
	expectOf(t, node(api.Sub, up, down), lin(0))
}

func TestOfGreatNumbers(t *testing.T) {
	for _, c := range []struct {
		leaf api.Node
		of   func(n int64) api.Lin
	}{{x, func(n int64) api.Lin { return lin(0, mono(n, x)) }}, {num(1), func(n int64) api.Lin { return lin(n) }}} {
		most := scale(1<<26, scale(1<<27, c.leaf))
		least := scale(-1<<26, scale(1<<27, c.leaf))
		expectOf(t, most, c.of(great))
		expectOf(t, least, c.of(-great))
		expectOf(t, node(api.Neg, most), c.of(-great))
		expectOf(t, node(api.Sub, most, c.leaf), c.of(great-1))
		expectOf(t, node(api.Add, node(api.Sub, most, c.leaf), c.leaf), c.of(great))
		expectOf(t, node(api.Add, most, least), lin(0))
		expectOf(t, scale(0, most), lin(0))
		n, m := node(api.Add, most, c.leaf), node(api.Sub, least, c.leaf)
		// Those are too great, and so is what is made of them, even where its own number is not.
		for _, w := range []api.Node{n, m, node(api.Sub, n, n), node(api.Add, n, m), scale(0, n), scale(0, m), node(api.Sub, n, c.leaf), node(api.Add, c.leaf, m), node(api.Add, y, n), node(api.Sub, n, y),
			node(api.Neg, n), node(api.Sub, y, node(api.Neg, n)), node(api.Sub, most, least), node(api.Add, most, most), scale(2, most), scale(-2, least)} {
			expectNoOf(t, w, api.ErrLimit)
		}
		// The lowest word alone of these products would be small.
		for k := int64(27); k <= 39; k++ {
			expectNoOf(t, scale(1<<k, scale(1<<27, c.leaf)), api.ErrLimit)
			expectNoOf(t, scale(-1<<k, scale(1<<27, scale(-1, c.leaf))), api.ErrLimit)
			expectNoOf(t, scale(-1<<k, scale(1<<26, scale(1<<26, c.leaf))), api.ErrLimit)
		}
		expectNoOf(t, scale(0, scale(api.MaxNum, scale(api.MaxNum, c.leaf))), api.ErrLimit)
		expectNoOf(t, scale(-api.MaxNum, scale(9008, c.leaf)), api.ErrLimit)
		expectOf(t, scale(-api.MaxNum, scale(9007, c.leaf)), c.of(-9007*api.MaxNum))
		// What stands inside an atom has no form on the way.
		for _, atom := range []api.Node{call("f", api.SInt, n), call("f", api.SObj, n), node(api.Ite, node(api.Le, n, n), n, n), node(api.Sel, variable("a", api.SArr), n)} {
			expectOf(t, atom, lin(0, mono(1, atom)))
		}
	}
}

func TestOfErrors(t *testing.T) {
	for e, l := range wrong() {
		for _, n := range l {
			if got, err := linear.Of(n); err != e || !same(got, api.Lin{}) {
				t.Errorf("P4.1: Of a node of Op %d is %v, %d, not error %d", n.Op, got, err, e)
			}
		}
	}
	for _, text := range []string{"p", "true", "x <= y", "x = y", "s", "empty", "sing(x)", "a", "sto(a, 1, 2)", "ite(p, s, s)", "ite(p, a, a)", "is(u)"} {
		expectNoOf(t, read(t, text), api.ErrSort)
	}
	// ErrSort stands ahead of ErrLimit for a number: a formula has no form.
	n := scale(api.MaxNum, scale(api.MaxNum, x))
	expectNoOf(t, node(api.Le, n, n), api.ErrSort)
	expectNoOf(t, node(api.Sing, n), api.ErrSort)
}

func TestOfLargeTerms(t *testing.T) {
	expectOf(t, chain(api.Neg, api.MaxNest-1, x), lin(0, mono(-1, x)))
	expectOf(t, doubled(10, x), lin(0, mono(1024, x)))
	n := num(0)
	for range api.MaxNest - 1 {
		n = node(api.Add, n, y)
	}
	expectOf(t, n, lin(0, mono(api.MaxNest-1, y)))
}

func TestTerm(t *testing.T) {
	fx := call("f", api.SInt, x)
	for k, c := range []struct {
		f    api.Lin
		want api.Node
	}{
		{api.Lin{}, num(0)}, {api.Lin{Monos: []api.Mono{}}, num(0)}, {lin(5), num(5)}, {lin(-5), num(-5)}, {lin(api.MaxNum), num(api.MaxNum)}, {lin(-api.MaxNum), num(-api.MaxNum)},
		{lin(0, mono(1, x)), x}, {lin(0, mono(-1, x)), scale(-1, x)}, {lin(0, mono(2, x)), scale(2, x)}, {lin(0, mono(api.MaxNum, x)), scale(api.MaxNum, x)}, {lin(0, mono(-api.MaxNum, x)), scale(-api.MaxNum, x)},
		{lin(1, mono(1, x)), node(api.Add, x, num(1))}, {lin(-1, mono(3, x)), node(api.Add, scale(3, x), num(-1))}, {lin(0, mono(1, x), mono(1, y)), node(api.Add, x, y)},
		{lin(0, mono(1, x), mono(-1, y)), node(api.Add, x, scale(-1, y))}, {lin(4, mono(2, x), mono(1, y), mono(-3, z)), node(api.Add, node(api.Add, node(api.Add, scale(2, x), y), scale(-3, z)), num(4))},
		{lin(0, mono(2, x), mono(1, fx)), node(api.Add, scale(2, x), fx)}, {lin(0, mono(1, u)), u}, {lin(0, mono(1, call("nil", api.SObj))), call("nil", api.SObj)},
	} {
		got, e := linear.Term(c.f)
		if e != api.OK || !logic.Equal(got, c.want) {
			t.Errorf("P4.1: case %d: Term is %v, %d, not %v", k, got, e, c.want)
			continue
		}
		expectOf(t, got, c.f)
	}
}

func TestTermErrors(t *testing.T) {
	most := wide(api.MaxNest, 1, 0)
	if n, e := linear.Term(most); e != api.OK || logic.Levels(n) != api.MaxNest {
		t.Errorf("P4.1: a term of %d levels: %d", api.MaxNest, e)
	}
	deep := call("f", api.SInt, chain(api.Neg, api.MaxNest-2, x))
	if n, e := linear.Term(lin(0, mono(1, deep))); e != api.OK || !logic.Equal(n, deep) {
		t.Errorf("P4.1: an atom of %d levels: %d", api.MaxNest, e)
	}
	big := call("f", api.SInt, doubled(10, x)) // 2048 nodes
	for k, f := range []api.Lin{
		// not valid
		lin(0, mono(0, x)), lin(0, mono(1, y), mono(1, x)), lin(0, mono(1, x), mono(1, x)), lin(0, mono(1, num(1))), lin(great + 1), lin(0, mono(great+1, x)), lin(0, mono(1, node(99))), lin(0, mono(1, doubled(90, x))),
		// numbers
		lin(api.MaxNum + 1), lin(-api.MaxNum - 1), lin(great), lin(0, mono(api.MaxNum+1, x)), lin(0, mono(-api.MaxNum-1, x)), lin(3, mono(1, x), mono(great, y)),
		// objects
		lin(1, mono(1, u)), lin(0, mono(2, u)), lin(0, mono(-1, u)), lin(0, mono(1, x), mono(1, u)), lin(0, mono(1, u), mono(1, variable("w", api.SObj))),
		// names
		lin(0, mono(1, x), mono(1, call("f", api.SInt, variable("x", api.SObj)))), lin(0, mono(1, variable("c", api.SInt)), mono(1, call("c", api.SInt))),
		// levels and nodes
		wide(api.MaxNest+1, 1, 0), wide(api.MaxNest, 2, 0), wide(api.MaxNest, 1, 1), lin(0, mono(2, deep)), lin(1, mono(1, deep)), lin(0, mono(1, big), mono(1, call("g", api.SInt, doubled(10, x)))), wide(5000, 1, 1),
	} {
		if n, e := linear.Term(f); e != api.ErrForm || !logic.Equal(n, api.Node{}) {
			t.Errorf("P4.1: case %d: Term is %v, %d, not ErrForm", k, n, e)
		}
	}
}

func expectAdd(t *testing.T, a, b api.Lin, p, q int64, want api.Lin) {
	t.Helper()
	got, e := linear.Add(a, b, p, q)
	if e != api.OK || !same(got, want) || !linear.Valid(got) {
		t.Errorf("P4.1: %d*%v + %d*%v is %v, %d, not %v", p, a, q, b, got, e, want)
	}
	if got, e := linear.Add(b, a, q, p); e != api.OK || !same(got, want) {
		t.Errorf("P4.5: %d*%v + %d*%v is %v, %d, not %v", q, b, p, a, got, e, want)
	}
}

func expectNoAdd(t *testing.T, a, b api.Lin, p, q int64, want api.Errno) {
	t.Helper()
	for range 2 {
		if got, e := linear.Add(a, b, p, q); e != want || got.Const != 0 || len(got.Monos) != 0 {
			t.Errorf("P4.1: %d*%v + %d*%v is %v, %d, not error %d", p, a, q, b, got, e, want)
		}
		a, b, p, q = b, a, q, p
	}
}

func TestAdd(t *testing.T) {
	f := lin(5, mono(2, x), mono(-3, y))
	g := lin(-1, mono(3, y), mono(4, z))
	expectAdd(t, f, g, 1, 1, lin(4, mono(2, x), mono(4, z)))
	expectAdd(t, f, g, 1, -1, lin(6, mono(2, x), mono(-6, y), mono(-4, z)))
	expectAdd(t, f, g, 3, 2, lin(13, mono(6, x), mono(-3, y), mono(8, z)))
	expectAdd(t, f, g, 0, 1, g)
	expectAdd(t, f, g, 0, 0, api.Lin{})
	expectAdd(t, f, g, -1, 0, lin(-5, mono(-2, x), mono(3, y)))
	expectAdd(t, f, f, 1, -1, api.Lin{})
	expectAdd(t, f, f, 3, -2, f)
	expectAdd(t, f, api.Lin{}, 1, 1, f)
	expectAdd(t, f, lin(-5), 1, 1, lin(0, mono(2, x), mono(-3, y)))
	expectAdd(t, api.Lin{}, api.Lin{}, 7, 7, api.Lin{})
	expectAdd(t, lin(2, mono(1, u)), lin(0, mono(1, x)), 1, 2, lin(2, mono(2, x), mono(1, u)))
	expectAdd(t, lin(0, mono(1, x)), lin(0, mono(1, variable("x", api.SObj))), 1, 1, lin(0, mono(1, x), mono(1, variable("x", api.SObj))))
	expectAdd(t, wide(300, 2, 1), wide(200, -2, 1), 1, 1, api.Lin{Monos: wide(300, 2, 0).Monos[200:], Const: 2})
}

func TestAddGreatNumbers(t *testing.T) {
	for _, c := range []func(n int64) api.Lin{func(n int64) api.Lin { return lin(n) }, func(n int64) api.Lin { return lin(0, mono(n, x)) }, func(n int64) api.Lin { return lin(n, mono(n, x), mono(-n, y)) }} {
		expectAdd(t, c(great), api.Lin{}, 1, 1, c(great))
		expectAdd(t, c(great), api.Lin{}, -1, 1<<63-1, c(-great))
		expectAdd(t, c(great-1), c(1), 1, 1, c(great))
		expectAdd(t, c(1-great), c(-1), 1, 1, c(-great))
		expectNoAdd(t, c(great), c(1), 1, 1, api.ErrLimit)
		expectNoAdd(t, c(-great), c(-1), 1, 1, api.ErrLimit)
		expectNoAdd(t, c(great), c(great), 1, 1, api.ErrLimit)
		expectNoAdd(t, c(great), api.Lin{}, 2, 1, api.ErrLimit)
		expectNoAdd(t, c(1), api.Lin{}, great+1, 1, api.ErrLimit)
		// Products of more than 64 bits, and their sums, are exact.
		expectAdd(t, c(-great), c(1-great), 1<<52, -1<<52, c(-1<<52))
		expectAdd(t, c(-great), c(1-great), -1<<53, 1<<53, c(great))
		expectNoAdd(t, c(-great), c(1-great), -1<<53-1, 1<<53+1, api.ErrLimit)
		expectNoAdd(t, c(-great), c(1-great), 1<<62, -1<<62, api.ErrLimit)
		for _, p := range []int64{1 << 11, 1 << 12, 1 << 40, 1 << 62, 1<<63 - 1, -1 << 63, -1 << 62, -1<<63 + 1, 3} {
			expectNoAdd(t, c(great), api.Lin{}, p, 0, api.ErrLimit)
			expectNoAdd(t, c(-great), c(3), p, 1, api.ErrLimit)
			expectNoAdd(t, c(great), c(great), p, p, api.ErrLimit)
			expectAdd(t, c(great), c(-great), p, p, api.Lin{})
			expectAdd(t, c(-great), c(great/2), p/2, p/2*2, api.Lin{})
		}
	}
}

func TestAddErrors(t *testing.T) {
	good := lin(1, mono(1, x))
	for _, bad := range []api.Lin{lin(great + 1), lin(0, mono(0, x)), lin(0, mono(1, y), mono(1, x)), lin(0, mono(1, x), mono(1, x)), lin(0, mono(1, num(3))), lin(0, mono(1, node(99))), lin(0, mono(1, doubled(90, x))),
		lin(0, mono(1, variable("s", api.SSet)))} {
		for _, p := range []int64{0, 1, -1, 1 << 62} {
			expectNoAdd(t, good, bad, 1, p, api.ErrForm)
			expectNoAdd(t, bad, bad, 1, p, api.ErrForm)
			expectNoAdd(t, lin(great), bad, 1<<62, p, api.ErrForm) // ahead of ErrLimit
		}
	}
}

func TestEqual(t *testing.T) {
	l := []api.Lin{{}, lin(1), lin(-1), lin(0, mono(1, x)), lin(0, mono(2, x)), lin(1, mono(1, x)), lin(0, mono(1, y)), lin(0, mono(1, variable("x", api.SObj))), lin(0, mono(1, x), mono(1, y)), lin(0, mono(1, y), mono(1, x)),
		lin(0, mono(1, x), mono(2, y)), lin(0, mono(1, call("f", 1, x))), lin(0, mono(1, call("f", 1, y))), lin(0, mono(0, x)), lin(0, mono(0, node(99))), lin(great + 1), lin(0, mono(1, x), mono(1, x))}
	for i, f := range l {
		for j, g := range l {
			if linear.Equal(f, g) != (i == j) {
				t.Errorf("P4.1: Equal of %v and %v", f, g)
			}
		}
	}
	none := node(api.True)
	none.Kids = []api.Node{}
	if !linear.Equal(api.Lin{Monos: []api.Mono{}}, api.Lin{}) || !linear.Equal(lin(1, mono(1, none)), lin(1, mono(1, node(api.True)))) {
		t.Error("P4.1: nil and empty lists are equal")
	}
}

// Results share no memory with arguments: spoiling either leaves the other one as it is.
func TestFormsShareNothing(t *testing.T) {
	text := "2 * f(x + 1) - len(cons(x, u)) + sel(a, f(x + 1)) - 3"
	n := read(t, text)
	f, e := linear.Of(n)
	want, e2 := linear.Of(read(t, text))
	if e != api.OK || e2 != api.OK {
		t.Fatalf("P4.1: %d %d", e, e2)
	}
	spoilNode(n)
	if !same(f, want) {
		t.Error("R3: Of shares memory with its argument")
	}
	term, _ := linear.Term(f)
	sum, _ := linear.Add(f, f, 2, -1)
	other, _ := linear.Add(f, api.Lin{}, 1, 1)
	before := fmt.Sprint(term)
	spoil(f)
	if fmt.Sprint(term) != before {
		t.Error("R3: Term shares memory with its argument")
	}
	if !same(sum, want) || !same(other, want) {
		t.Error("R3: Add shares memory with its arguments")
	}
	spoil(sum)
	if !same(other, want) {
		t.Error("R3: two results share memory")
	}
	// The atoms of one result share none with each other.
	fx := call("f", api.SInt, x)
	both := lin(0, mono(1, call("g", api.SInt, fx)), mono(1, call("h", api.SInt, fx)))
	both.Monos[1].Atom.Kids = both.Monos[0].Atom.Kids
	got, e := linear.Add(both, api.Lin{}, 1, 0)
	if e != api.OK {
		t.Fatalf("P4.1: %d", e)
	}
	spoilNode(got.Monos[0].Atom)
	if !logic.Equal(got.Monos[1].Atom, call("h", api.SInt, fx)) {
		t.Error("R3: two lists of one result share memory")
	}
}
