package logic_test

import (
	"strings"
	"testing"

	"quantale/api"
	"quantale/logic"
)

var words = []string{"true", "false", "in", "sub", "empty", "sing", "cup", "cap", "diff", "sel", "sto", "vlen", "ite"}

func TestName(t *testing.T) {
	for _, n := range []string{"x", "X", "a", "z", "A", "Z", "x0", "x9", "z.0", "x.", "x..y", "Cons", "True", "len", "let", "ites", "not",
		strings.Repeat("a", api.MaxLong)} {
		if !logic.Name(n) {
			t.Errorf("P1.1: %q is a name", n)
		}
	}
	no := []string{"", ".", ".x", "0", "9x", "_", "a_b", "a b", " a", "a ", "a-b", "a'", "\u00e9", "a\u00e9", "a\x00", "a/", "a:", "a@", "a[", "a`", "a{", "@a", "[a", "`a", "{a",
		strings.Repeat("a", api.MaxLong+1)}
	for _, n := range append(no, words...) {
		if logic.Name(n) {
			t.Errorf("P1.1: %q is no name", n)
		}
	}
}

func TestSort(t *testing.T) {
	x := i("x")
	of := map[int][]int{
		api.SInt: {api.Int, api.Add, api.Sub, api.Neg, api.Scale, api.Sel, api.Len},
		api.SSet: {api.Empty, api.Sing, api.Cup, api.Cap, api.Minus},
		api.SArr: {api.Sto},
		api.SBool: {api.True, api.False, api.Not, api.And, api.Or, api.Imp, api.Iff, api.Eq, api.Le, api.Lt,
			api.Mem, api.Subset, api.Hole},
		0: {0, -1, 17, 29, 43, 99},
	}
	for sort, ops := range of {
		for _, o := range ops {
			for _, n := range []api.Node{op(o), op(o, s("y"), x, x, x), {Op: o, Sort: api.SObj, Name: "x"}} {
				if got := logic.Sort(n); got != sort {
					t.Errorf("P1.1: Sort(%v) is %d, not %d", n, got, sort)
				}
			}
		}
	}
	for _, sort := range []int{0, 1, 2, 3, 4, 5, 6, -1} {
		if logic.Sort(v("x", sort)) != sort || logic.Sort(app("f", sort, x)) != sort {
			t.Errorf("P1.1: the Sort of a Var or App is its Sort (%d)", sort)
		}
	}
}

func TestSortOfIte(t *testing.T) {
	x := i("x")
	for _, c := range []struct {
		n    api.Node
		sort int
	}{
		{op(api.Ite), 0},
		{op(api.Ite, s("y")), 0},
		{op(api.Ite, x, s("y")), api.SSet},
		{op(api.Ite, b("c"), s("y"), x), api.SSet},
		{op(api.Ite, b("c"), b("d"), x), api.SBool},
		{op(api.Ite, b("c"), op(api.Ite, b("c"), a("y"), s("z")), x), api.SArr},
		{op(api.Ite, b("c"), op(api.Ite, b("c")), x), 0},
		{op(api.Ite, op(api.Ite), x, op(api.Ite)), api.SInt},
		{op(api.Ite, b("c"), op(99), x), 0},
	} {
		if got := logic.Sort(c.n); got != c.sort {
			t.Errorf("P1.1: Sort(%v) is %d, not %d", c.n, got, c.sort)
		}
	}
}

// takes lists, for each Op but App and Hole, the sorts of kids that it takes, a string of digits each.
func takes() map[int][]string {
	m := map[int][]string{}
	add := func(l []string, ops ...int) {
		for _, o := range ops {
			m[o] = l
		}
	}
	add([]string{""}, api.Var, api.Int, api.Empty, api.True, api.False)
	add([]string{"1"}, api.Neg, api.Scale, api.Sing)
	add([]string{"11"}, api.Add, api.Sub, api.Le, api.Lt)
	add([]string{"44"}, api.Cup, api.Cap, api.Minus, api.Subset)
	add([]string{"2"}, api.Not)
	add([]string{"22"}, api.And, api.Or, api.Imp, api.Iff)
	add([]string{"11", "33", "44", "55"}, api.Eq)
	add([]string{"211", "233", "244", "255"}, api.Ite)
	add([]string{"14"}, api.Mem)
	add([]string{"51"}, api.Sel)
	add([]string{"511"}, api.Sto)
	add([]string{"5"}, api.Len)
	return m
}

// choices returns all strings of at most n sorts.
func choices(n int) []string {
	all := []string{""}
	for last := []string{""}; n > 0; n-- {
		var next []string
		for _, c := range last {
			for _, d := range "12345" {
				next = append(next, c+string(d))
			}
		}
		all = append(all, next...)
		last = next
	}
	return all
}

func kidsOf(choice string) []api.Node {
	var l []api.Node
	for k, d := range choice {
		l = append(l, v("k"+string(rune('0'+k)), int(d-'0')))
	}
	return l
}

func TestCheckKids(t *testing.T) {
	table := takes()
	all := choices(4)
	for o := -1; o <= 45; o++ {
		if o == api.App || o == api.Hole {
			continue
		}
		for _, c := range all {
			n := op(o, kidsOf(c)...)
			if o == api.Var {
				n.Name, n.Sort = "x", api.SObj
			}
			want := api.ErrForm
			for _, l := range table[o] {
				if l == c {
					want = api.OK
				}
			}
			expectCheck(t, "P1.1", n, 0, want)
		}
	}
}

func TestCheckAppAndHole(t *testing.T) {
	for _, c := range choices(3) {
		for _, sort := range sorts {
			expectCheck(t, "P1.1", app("f", sort, kidsOf(c)...), sort, api.OK)
		}
		want := api.OK
		if c == "" {
			want = api.ErrForm
		}
		expectCheck(t, "P1.1", hole(0, kidsOf(c)...), api.SBool, want)
	}
	for n, want := range map[int]api.Errno{0: api.OK, 1: api.OK, api.MaxArgs: api.OK, api.MaxArgs + 1: api.ErrForm} {
		expectCheck(t, "P1.1", app("f", api.SSet, manyKids(n, api.SObj)...), 0, want)
	}
	for n, want := range map[int]api.Errno{0: api.ErrForm, 1: api.OK, 40: api.OK, 41: api.ErrForm} {
		expectCheck(t, "P1.1", hole(7, manyKids(n, api.SObj)...), 0, want)
	}
	expectCheck(t, "P1.1", app("f", api.SInt, op(99)), 0, api.ErrForm)
	expectCheck(t, "P1.1", hole(1, raw("x")), 0, api.ErrForm)
}

// examples has a well sorted node of each Op.
func examples() []api.Node {
	x, y, c := i("x"), s("y"), b("c")
	return []api.Node{x, num(3), app("f", api.SInt, x), op(api.Add, x, x), op(api.Sub, x, x), op(api.Neg, x), scale(3, x),
		op(api.Ite, c, y, y), op(api.Empty), op(api.Sing, x), op(api.Cup, y, y), op(api.Cap, y, y), op(api.Minus, y, y),
		op(api.Sel, a("l"), x), op(api.Sto, a("l"), x, x), op(api.Len, a("l")), isTrue(), op(api.False), op(api.Not, c),
		op(api.And, c, c), op(api.Or, c, c), op(api.Imp, c, c), op(api.Iff, c, c), op(api.Eq, y, y), op(api.Le, x, x),
		op(api.Lt, x, x), op(api.Mem, x, y), op(api.Subset, y, y), hole(2, x)}
}

func TestCheckFields(t *testing.T) {
	for _, n := range examples() {
		expectCheck(t, "P1.1", n, 0, api.OK)
		named := n.Op == api.Var || n.Op == api.App
		m := n
		m.Name = "x"
		if !named {
			expectCheck(t, "P1.1: a name", m, 0, api.ErrForm)
		}
		for _, sort := range []int{-1, 0, 1, 2, 3, 4, 5, 6} {
			m = n
			m.Sort = sort
			want := api.ErrForm
			if named && sort >= 1 && sort <= 5 || !named && sort == 0 {
				want = api.OK
			}
			expectCheck(t, "P1.1: a Sort", m, 0, want)
		}
		if n.Op == api.Int || n.Op == api.Scale || n.Op == api.Hole {
			continue
		}
		for _, k := range []int64{-1, 1, 5} {
			m = n
			m.Num = k
			expectCheck(t, "P1.1: a Num", m, 0, api.ErrForm)
		}
	}
}

func TestCheckNames(t *testing.T) {
	long := strings.Repeat("b", api.MaxLong)
	for _, name := range []string{"x", "Cons", "z.0", long} {
		expectCheck(t, "P1.1", i(name), api.SInt, api.OK)
		expectCheck(t, "P1.1", app(name, api.SInt, i("y")), api.SInt, api.OK)
	}
	for _, name := range append([]string{"", "1", ".a", "a b", long + "b"}, words...) {
		expectCheck(t, "P1.1", i(name), api.SInt, api.ErrForm)
		expectCheck(t, "P1.1", app(name, api.SInt, i("y")), api.SInt, api.ErrForm)
		expectCheck(t, "P1.1", app(name, api.SInt), 0, api.ErrForm)
	}
}

func TestCheckNumbers(t *testing.T) {
	const most = api.MaxNum
	for n, want := range map[int64]api.Errno{0: api.OK, 1: api.OK, -1: api.OK, most: api.OK, -most: api.OK,
		most + 1: api.ErrForm, -most - 1: api.ErrForm, 1<<63 - 1: api.ErrForm, -1 << 63: api.ErrForm} {
		expectCheck(t, "P1.1", num(n), api.SInt, want)
		expectCheck(t, "P1.1", scale(n, i("x")), api.SInt, want)
	}
	for n, want := range map[int64]api.Errno{0: api.OK, 1: api.OK, api.MaxUnknown - 1: api.OK, api.MaxUnknown: api.ErrForm,
		-1: api.ErrForm, -1 << 63: api.ErrForm} {
		expectCheck(t, "P1.1", hole(n, i("x")), api.SBool, want)
	}
}

func TestCheckLimits(t *testing.T) {
	for _, leaf := range []api.Node{b("p"), isTrue()} {
		expectLimit(t, sized(api.MaxNodes, leaf), sized(api.MaxNodes+1, leaf), api.SBool)
	}
	for _, leaf := range []api.Node{i("x"), num(1)} {
		expectLimit(t, chain(api.Neg, api.MaxNest-1, leaf), chain(api.Neg, api.MaxNest, leaf), api.SInt)
	}
	// The deepest node need not be the first or the last one.
	deep := chain(api.Not, api.MaxNest-1, b("p"))
	expectLimit(t, deep, op(api.Or, op(api.And, isTrue(), deep), isTrue()), api.SBool)
	// Limits hold for nodes of any form.
	expectCheck(t, "P1.1", chain(99, api.MaxNest, i("x")), 0, api.ErrLimit)
	wide := op(99)
	wide.Kids = make([]api.Node, api.MaxNodes)
	expectCheck(t, "P1.1", wide, 0, api.ErrLimit)
	wide.Kids = wide.Kids[1:]
	expectCheck(t, "P1.1", wide, 0, api.ErrForm)
}

func expectLimit(t *testing.T, most, more api.Node, sort int) {
	t.Helper()
	expectCheck(t, "P1.1: at the limit", most, sort, api.OK)
	expectCheck(t, "P1.1: beyond the limit", more, sort, api.ErrLimit)
}

// A tree that shares its parts is small in memory, but not in nodes: Check and Resolve must not walk through all of it.
func TestCheckOfSharedParts(t *testing.T) {
	n := b("p")
	for range api.MaxNest - 1 {
		n = op(api.And, n, n)
	}
	expectCheck(t, "P1.1, R1", n, api.SBool, api.ErrLimit)
	if _, e := logic.Resolve(n, nil, nil); e != api.ErrLimit {
		t.Errorf("P1.6, R1: %d", e)
	}
}

func TestCheckOrder(t *testing.T) {
	form := op(api.Le, i("x"), s("y"))
	mixed := op(api.Eq, op(api.Sing, i("x")), s("x"))
	deep := chain(99, api.MaxNest, i("true"))
	for _, sort := range []int{-1, 6, 100, -1 << 40} {
		for _, n := range []api.Node{i("x"), form, mixed, deep, {}} {
			expectCheck(t, "P1.1: ErrRange comes first", n, sort, api.ErrRange)
		}
	}
	for _, sort := range []int{0, api.SInt, api.SBool, api.SArr} {
		expectCheck(t, "P1.1: ErrLimit comes before ErrForm", deep, sort, api.ErrLimit)
		expectCheck(t, "P1.1: ErrForm comes before ErrSort", form, sort, api.ErrForm)
		expectCheck(t, "P1.1: ErrForm comes before ErrSort", mixed, sort, api.ErrForm)
		expectCheck(t, "P1.1", api.Node{}, sort, api.ErrForm)
	}
	expectCheck(t, "P1.1: ErrLimit comes before ErrSort", chain(api.Neg, api.MaxNest, i("x")), api.SSet, api.ErrLimit)
}

func TestCheckSort(t *testing.T) {
	for _, n := range examples() {
		for _, sort := range append(sorts, 0) {
			want := api.OK
			if sort != 0 && sort != logic.Sort(n) {
				want = api.ErrSort
			}
			expectCheck(t, "P1.1", n, sort, want)
		}
	}
	for _, sort := range sorts {
		for _, other := range sorts {
			want := map[bool]api.Errno{true: api.OK, false: api.ErrSort}[sort == other]
			expectCheck(t, "P1.1", v("x", sort), other, want)
			expectCheck(t, "P1.1", app("f", sort, i("x")), other, want)
		}
	}
}

func TestCheckBelow(t *testing.T) {
	for _, bad := range []api.Node{i("true"), raw("x"), op(99), op(api.Le, i("x"), s("x")), hole(-1, i("x")), num(api.MaxNum + 1)} {
		for _, n := range []api.Node{
			app("f", api.SInt, i("y"), bad), hole(0, i("y"), bad), op(api.Not, op(api.Le, num(1), app("f", api.SInt, bad))),
			op(api.And, b("c"), op(api.Mem, app("f", api.SInt, bad), s("z"))),
		} {
			expectCheck(t, "P1.1", n, 0, api.ErrForm)
		}
	}
}

func TestUniform(t *testing.T) {
	c := app("c", api.SInt)
	for k, n := range []api.Node{
		i("x"), op(api.Eq, i("x"), i("x")), op(api.Eq, c, c), op(api.Eq, c, i("x")),
		op(api.Eq, app("x", api.SInt, i("x")), i("x")),
		app("f", api.SInt, app("c", api.SInt), app("c", api.SObj)),
		app("f", api.SInt, app("f", api.SInt, i("x")), app("f", api.SObj, o("y"))),
		app("f", api.SInt, app("f", api.SInt, i("x")), app("f", api.SInt)),
		hole(0, i("x"), i("x"), s("y")),
	} {
		if !logic.Uniform(n) {
			t.Errorf("P1.1: case %d is uniform", k)
		}
		expectCheck(t, "P1.1", n, 0, api.OK)
	}
	for k, n := range []api.Node{
		op(api.Mem, i("x"), s("x")), op(api.And, b("x"), op(api.Le, i("y"), i("x"))),
		op(api.Eq, c, i("c")), op(api.Eq, i("c"), c), app("f", api.SInt, c, o("c")), app("f", api.SInt, b("c"), i("x"), c),
		hole(0, i("x"), a("x")), app("f", api.SInt, i("f"), i("y"), app("f", api.SInt)),
		app("f", api.SInt, i("x"), op(api.Sing, app("g", api.SInt, o("x")))),
	} {
		if logic.Uniform(n) {
			t.Errorf("P1.1: case %d is not uniform", k)
		}
		expectCheck(t, "P1.1", n, 0, api.ErrForm)
	}
}

func TestUniformOfAnyNode(t *testing.T) {
	for k, n := range []api.Node{{}, op(99), op(99, raw("x"), raw("x"), raw("")), op(api.Le, s("y"), num(1)), v("", 77),
		{Op: api.Int, Name: "x", Sort: 3, Kids: []api.Node{i("x")}}, op(99, v("x", 9), api.Node{Op: api.Hole, Name: "x", Sort: 1}),
		op(99, app("x", 0, i("y")), raw("x"))} {
		if !logic.Uniform(n) {
			t.Errorf("P1.1: case %d is uniform", k)
		}
	}
	for k, n := range []api.Node{op(99, raw("x"), i("x")), op(99, op(99, v("", 7)), v("", 8)), op(99, raw("x"), app("x", 0)),
		op(99, app("true", 0), raw("true"))} {
		if logic.Uniform(n) {
			t.Errorf("P1.1: case %d is not uniform", k)
		}
	}
}

func TestSizeAndLevels(t *testing.T) {
	x := i("x")
	for k, c := range []struct {
		n            api.Node
		size, levels int
	}{
		{x, 1, 1}, {api.Node{}, 1, 1}, {op(99, x, x), 3, 2}, {op(api.Add, x, op(api.Neg, x)), 4, 3},
		{op(api.Add, op(api.Neg, op(api.Neg, x)), x), 5, 4}, {api.Node{Op: api.Int, Kids: []api.Node{x}}, 2, 2},
		{app("f", 1, x, x, op(api.Sing, x), x), 6, 3}, {api.Node{Op: api.True, Kids: []api.Node{}}, 1, 1},
		{sized(api.MaxNodes+1, isTrue()), api.MaxNodes + 1, 12}, {chain(7, api.MaxNest+5, x), api.MaxNest + 6, api.MaxNest + 6},
	} {
		if got := logic.Size(c.n); got != c.size {
			t.Errorf("P1.1: case %d: Size is %d", k, got)
		}
		if got := logic.Levels(c.n); got != c.levels {
			t.Errorf("P1.1: case %d: Levels is %d", k, got)
		}
	}
}

func TestHoles(t *testing.T) {
	h := hole(3, i("x"))
	for _, n := range []api.Node{h, op(api.Hole), op(api.And, b("p"), h), op(api.Imp, b("p"), op(api.Not, op(api.Or, h, b("p")))),
		op(99, h), app("f", 0, num(1), h), {Op: api.Var, Name: "x", Kids: []api.Node{h}}} {
		if !logic.Holes(n) {
			t.Errorf("P1.1: %v has a Hole", n)
		}
	}
	for _, n := range append(examples()[:28], api.Node{}, op(99, num(api.Hole)), app("hole", 2, num(42))) {
		if logic.Holes(n) {
			t.Errorf("P1.1: %v has no Hole", n)
		}
	}
}
