package logic_test

import (
	"slices"
	"testing"

	"quantale/api"
	"quantale/logic"
)

// ascending has nodes in the order of Compare: each one is less than the next in one respect, and greater in those that count less.
func ascending() []api.Node {
	x, y := i("x"), i("y")
	return []api.Node{
		{Op: -1, Sort: 9, Name: "z", Num: 9, Kids: []api.Node{y, y}},
		{},
		{Op: 1, Sort: -1, Name: "z", Num: 9, Kids: []api.Node{y}},
		{Op: 1, Sort: 0, Name: "z", Num: 9},
		{Op: 1, Sort: 1, Name: "", Num: 9, Kids: []api.Node{y}},
		{Op: 1, Sort: 1, Name: "B", Num: 9, Kids: []api.Node{y}},
		{Op: 1, Sort: 1, Name: "a", Num: 9, Kids: []api.Node{y}},
		{Op: 1, Sort: 1, Name: "a.", Num: 9, Kids: []api.Node{y}},
		{Op: 1, Sort: 1, Name: "a0", Num: 9, Kids: []api.Node{y}},
		{Op: 1, Sort: 1, Name: "aB", Num: 9, Kids: []api.Node{y}},
		{Op: 1, Sort: 1, Name: "aa", Num: 9, Kids: []api.Node{y}},
		{Op: 1, Sort: 1, Name: "b", Num: -1 << 63, Kids: []api.Node{y, y}},
		{Op: 1, Sort: 1, Name: "b", Num: -2, Kids: []api.Node{y, y}},
		{Op: 1, Sort: 1, Name: "b", Num: 0, Kids: []api.Node{y, y}},
		{Op: 1, Sort: 1, Name: "b", Num: 1<<63 - 1},
		{Op: 1, Sort: 1, Name: "b", Num: 1<<63 - 1, Kids: []api.Node{op(99)}},
		{Op: 1, Sort: 1, Name: "b", Num: 1<<63 - 1, Kids: []api.Node{x, y}},
		{Op: 1, Sort: 1, Name: "b", Num: 1<<63 - 1, Kids: []api.Node{y, x}},
		{Op: 1, Sort: 1, Name: "b", Num: 1<<63 - 1, Kids: []api.Node{y, y}},
		{Op: 1, Sort: 1, Name: "b", Num: 1<<63 - 1, Kids: []api.Node{y, op(api.Neg, x)}},
		{Op: 1, Sort: 1, Name: "b", Num: 1<<63 - 1, Kids: []api.Node{y, op(api.Neg, y)}},
		{Op: 1, Sort: 1, Name: "\u00e9"},
		num(-1), num(0), num(1), num(10),
		op(api.And, x, y),
		op(99),
	}
}

func TestCompare(t *testing.T) {
	l := ascending()
	for j, m := range l {
		for k, n := range l {
			want := 0
			if j < k {
				want = -1
			} else if j > k {
				want = 1
			}
			if got := logic.Compare(m, n); got != want {
				t.Errorf("P1.2: Compare of %d and %d is %d", j, k, got)
			}
			if logic.Equal(m, n) != (j == k) {
				t.Errorf("P1.2: Equal of %d and %d", j, k)
			}
		}
	}
	if logic.Compare(op(api.True), api.Node{Op: api.True, Kids: []api.Node{}}) != 0 || !logic.Equal(api.Node{Kids: []api.Node{{}}}, api.Node{Kids: []api.Node{{Kids: []api.Node{}}}}) {
		t.Error("P1.2: nil and empty lists are equal")
	}
}

func TestVars(t *testing.T) {
	for _, c := range []struct {
		n    api.Node
		want []api.Decl
	}{
		{api.Node{}, nil},
		{num(3), nil},
		{app("f", 1, app("c", 1)), nil},
		{i("x"), []api.Decl{{Name: "x", Sort: 1}}},
		{raw("x"), []api.Decl{{Name: "x"}}},
		{op(api.And, op(api.Le, i("y"), i("x")), op(api.Mem, i("x"), s("s"))), []api.Decl{{Name: "s", Sort: 4}, {Name: "x", Sort: 1}, {Name: "y", Sort: 1}}},
		{app("g", 1, a("x"), b("x"), i("b"), s("x"), b("x"), o("B"), i("a.")),
			[]api.Decl{{Name: "B", Sort: 3}, {Name: "a.", Sort: 1}, {Name: "b", Sort: 1}, {Name: "x", Sort: 2}, {Name: "x", Sort: 4}, {Name: "x", Sort: 5}}},
		{op(99, v("", 7), hole(1, v("", -7)), num(2)), []api.Decl{{Name: "", Sort: -7}, {Name: "", Sort: 7}}},
		{op(99, api.Node{Op: api.Var, Name: "x", Num: 1}, api.Node{Op: api.Var, Name: "x", Kids: []api.Node{i("y")}}),
			[]api.Decl{{Name: "x"}, {Name: "y", Sort: 1}}},
	} {
		if got := logic.Vars(c.n); !slices.Equal(got, c.want) {
			t.Errorf("P1.3: Vars(%v) is %v, not %v", c.n, got, c.want)
		}
	}
}

func TestApps(t *testing.T) {
	x, y := i("x"), i("y")
	fx, fy := app("f", 1, x), app("f", 1, y)
	for _, c := range []struct {
		n    api.Node
		want []api.Node
	}{
		{api.Node{}, nil},
		{op(api.And, b("f"), op(api.Le, x, y)), nil},
		{fx, []api.Node{fx}},
		{app("f", 1, fx), []api.Node{fx, app("f", 1, fx)}},
		{op(api.Add, op(api.Add, fy, fx), op(api.Sub, fx, fy)), []api.Node{fx, fy}},
		{op(api.And, app("f", 2, x), op(api.Eq, app("g", 1), app("f", 1, x, y))), []api.Node{app("f", 1, x, y), app("g", 1), app("f", 2, x)}},
		{op(99, app("", 0), hole(0, app("", -1)), app("", 0)), []api.Node{app("", -1), app("", 0)}},
		{api.Node{Op: api.Var, Kids: []api.Node{fy}}, []api.Node{fy}},
	} {
		expectNodes(t, "P1.3", logic.Apps(c.n), c.want)
	}
}
