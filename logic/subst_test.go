package logic_test

import (
	"testing"

	"quantale/api"
	"quantale/logic"
)

func TestSubst(t *testing.T) {
	x, y := i("x"), i("y")
	for _, c := range []struct {
		n    api.Node
		name string
		with api.Node
		want api.Node
	}{
		{x, "x", y, y},
		{x, "y", y, x},
		{op(api.Add, x, y), "x", op(api.Neg, x), op(api.Add, op(api.Neg, x), y)},
		{op(api.Le, op(api.Add, x, x), scale(3, x)), "x", num(4), op(api.Le, op(api.Add, num(4), num(4)), scale(3, num(4)))},
		{app("x", 1, x, app("x", 1)), "x", y, app("x", 1, y, app("x", 1))},
		{hole(2, x, y), "y", x, hole(2, x, x)},
		// every sort, and nodes of any form
		{app("f", 1, x, s("x"), raw("x"), v("x", 9)), "x", y, app("f", 1, y, y, y, y)},
		{op(99, op(-1, x), b("x")), "x", op(77), op(99, op(-1, op(77)), op(77))},
		{op(99, raw(""), app("", 0)), "", x, op(99, x, app("", 0))},
		{api.Node{Op: api.Int, Name: "x", Num: 3}, "x", y, api.Node{Op: api.Int, Name: "x", Num: 3}},
		{op(api.Mem, x, s("y")), "x", s("z"), op(api.Mem, s("z"), s("y"))},
		{api.Node{Op: api.Var, Name: "x", Num: 2, Kids: []api.Node{x}}, "x", y, y},
	} {
		expectNode(t, "P1.4", logic.Subst(c.n, c.name, c.with), c.want)
		expectNode(t, "P1.4", logic.SubstAll(c.n, []string{c.name}, []api.Node{c.with}), c.want)
	}
}

func TestSubstAll(t *testing.T) {
	x, y, z := i("x"), i("y"), i("z")
	n := app("f", 1, x, y, op(api.Neg, z))
	of := func(a, b, c api.Node) api.Node { return app("f", 1, a, b, op(api.Neg, c)) }
	for _, c := range []struct {
		names []string
		with  []api.Node
		want  api.Node
	}{
		{nil, nil, n},
		{[]string{"x", "y"}, nil, n},
		{nil, []api.Node{x}, n},
		// at once: what comes in is not replaced again
		{[]string{"x", "y"}, []api.Node{y, x}, of(y, x, z)},
		{[]string{"x", "y", "z"}, []api.Node{op(api.Add, y, z), z, x}, of(op(api.Add, y, z), z, x)},
		// the first one of a name counts
		{[]string{"x", "x", "y", "x"}, []api.Node{num(1), num(2), num(3), num(4)}, of(num(1), num(3), z)},
		// names beyond the shorter list do not count
		{[]string{"x", "y", "z"}, []api.Node{num(1)}, of(num(1), y, z)},
		{[]string{"z"}, []api.Node{num(1), num(2)}, of(x, y, num(1))},
		{[]string{"z", "x"}, []api.Node{num(1), num(2), num(3)}, of(num(2), y, num(1))},
		{[]string{"f", "w"}, []api.Node{num(1), num(2)}, n},
	} {
		expectNode(t, "P1.4", logic.SubstAll(n, c.names, c.with), c.want)
	}
}

func TestConj(t *testing.T) {
	p, q, r := b("p"), b("q"), b("r")
	and := func(a, b api.Node) api.Node { return op(api.And, a, b) }
	for _, c := range []struct {
		l    []api.Node
		want api.Node
	}{
		{nil, isTrue()},
		{[]api.Node{}, isTrue()},
		{[]api.Node{p}, p},
		{[]api.Node{isTrue()}, isTrue()},
		{[]api.Node{p, q}, and(p, q)},
		{[]api.Node{p, q, r}, and(and(p, q), r)},
		{[]api.Node{p, and(q, r), p, isTrue()}, and(and(and(p, and(q, r)), p), isTrue())},
		{[]api.Node{isTrue(), isTrue()}, and(isTrue(), isTrue())},
	} {
		expectNode(t, "P1.5", logic.Conj(c.l), c.want)
	}
}

func TestConjuncts(t *testing.T) {
	p, q, r := b("p"), b("q"), b("r")
	and := func(a, b api.Node) api.Node { return op(api.And, a, b) }
	for _, c := range []struct {
		n    api.Node
		want []api.Node
	}{
		{isTrue(), nil},
		{p, []api.Node{p}},
		{op(api.False), []api.Node{op(api.False)}},
		{i("x"), []api.Node{i("x")}},
		{hole(0, p), []api.Node{hole(0, p)}},
		{and(p, q), []api.Node{p, q}},
		{and(and(q, p), r), []api.Node{q, p, r}},
		{and(r, and(and(p, p), q)), []api.Node{r, p, p, q}},
		{and(and(isTrue(), p), and(isTrue(), isTrue())), []api.Node{p}},
		{and(isTrue(), isTrue()), nil},
		// what stands below another operator is no part
		{op(api.Or, and(p, q), isTrue()), []api.Node{op(api.Or, and(p, q), isTrue())}},
		{and(op(api.Not, isTrue()), op(api.Imp, and(p, q), r)), []api.Node{op(api.Not, isTrue()), op(api.Imp, and(p, q), r)}},
	} {
		expectNodes(t, "P1.5", logic.Conjuncts(c.n), c.want)
	}
}
