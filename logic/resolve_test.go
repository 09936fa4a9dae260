package logic_test

import (
	"slices"
	"testing"

	"quantale/api"
	"quantale/logic"
)

func declared() []api.Decl {
	return []api.Decl{{Name: "x", Sort: api.SInt}, {Name: "y", Sort: api.SInt}, {Name: "p", Sort: api.SBool}, {Name: "q", Sort: api.SBool},
		{Name: "l", Sort: api.SObj}, {Name: "s", Sort: api.SSet}, {Name: "a", Sort: api.SArr}, {Name: "x", Sort: api.SSet},
		{Name: "both", Sort: api.SInt}, {Name: "none", Sort: 0}, {Name: "beyond", Sort: 6}, {Name: "sel", Sort: api.SInt}}
}

func signed() []api.Sig {
	return []api.Sig{{Name: "len", Args: []int{api.SObj}, Sort: api.SInt}, {Name: "zero", Sort: api.SInt}, {Name: "nil", Args: []int{}, Sort: api.SObj},
		{Name: "yes", Sort: api.SBool}, {Name: "any", Args: []int{0, api.SInt}, Sort: api.SObj}, {Name: "pred", Args: []int{api.SBool}, Sort: api.SBool},
		{Name: "len", Args: []int{api.SInt, api.SInt}, Sort: api.SBool}, {Name: "zero", Args: []int{api.SInt}, Sort: api.SSet},
		{Name: "late", Args: []int{api.SInt}, Sort: api.SInt}, {Name: "late", Sort: api.SInt},
		{Name: "both", Sort: api.SInt}, {Name: "sortless", Sort: 0}, {Name: "strange", Args: []int{7}, Sort: api.SInt},
		{Name: "wide", Args: []int{1, 1, 1, 1, 1, 1, 1, 1, 1}, Sort: api.SInt}, {Name: "full", Args: []int{1, 1, 1, 1, 1, 1, 1, 1}, Sort: api.SInt}}
}

// call is a raw application.
func call(name string, kids ...api.Node) api.Node { return app(name, 0, kids...) }

func expectResolved(t *testing.T, n, want api.Node) {
	t.Helper()
	got, e := logic.Resolve(n, declared(), signed())
	if e != api.OK || !logic.Equal(got, want) {
		t.Errorf("P1.6: Resolve(%v) is %v, %d, not %v", n, got, e, want)
	}
	if e := logic.Check(got, 0); e != api.OK {
		t.Errorf("P1.7: Check of a resolved node is %d", e)
	}
}

func expectError(t *testing.T, n api.Node, want api.Errno) {
	t.Helper()
	got, e := logic.Resolve(n, declared(), signed())
	if e != want || !logic.Equal(got, api.Node{}) || got.Kids != nil {
		t.Errorf("P1.6: Resolve(%v) is %v, %d, not %d", n, got, e, want)
	}
}

func TestResolve(t *testing.T) {
	x, l, zero := i("x"), o("l"), app("zero", api.SInt)
	for _, c := range []struct{ n, want api.Node }{
		{raw("x"), x},
		{raw("s"), s("s")},
		{num(3), num(3)},
		{op(api.Le, op(api.Add, raw("x"), num(1)), raw("y")), op(api.Le, op(api.Add, x, num(1)), i("y"))},
		{raw("zero"), zero},
		{call("zero"), zero},
		{raw("nil"), app("nil", api.SObj)},
		{raw("both"), i("both")},
		{call("late", raw("x")), app("late", api.SInt, x)},
		{op(api.Eq, call("len", raw("l")), raw("zero")), op(api.Eq, app("len", api.SInt, l), zero)},
		{call("len", raw("nil")), app("len", api.SInt, app("nil", api.SObj))},
		{call("any", raw("l"), raw("x")), app("any", api.SObj, l, x)},
		{call("any", raw("a"), call("len", call("any", raw("s"), num(1)))),
			app("any", api.SObj, a("a"), app("len", api.SInt, app("any", api.SObj, s("s"), num(1))))},
		{call("pred", op(api.Lt, raw("x"), num(2))), app("pred", api.SBool, op(api.Lt, x, num(2)))},
		{call("full", manyRaw(api.MaxArgs)...), app("full", api.SInt, slices.Repeat([]api.Node{x}, api.MaxArgs)...)},
		{hole(3, raw("x"), raw("zero"), raw("l")), hole(3, x, zero, l)},
		{op(api.Ite, raw("p"), raw("l"), raw("nil")), op(api.Ite, b("p"), l, app("nil", api.SObj))},
		// sorts that are there are given anew
		{op(api.Eq, s("x"), app("zero", api.SObj)), op(api.Eq, x, zero)},
	} {
		expectResolved(t, c.n, c.want)
	}
}

func manyRaw(n int) []api.Node { return slices.Repeat([]api.Node{raw("x")}, n) }

func TestResolveEq(t *testing.T) {
	p, q, x := b("p"), b("q"), i("x")
	le := op(api.Le, x, x)
	rawLe := op(api.Le, raw("x"), raw("x"))
	for _, c := range []struct{ n, want api.Node }{
		{op(api.Eq, isTrue(), op(api.False)), op(api.Iff, isTrue(), op(api.False))},
		{op(api.Eq, raw("p"), raw("q")), op(api.Iff, p, q)},
		{op(api.Iff, raw("p"), raw("q")), op(api.Iff, p, q)},
		{op(api.Eq, raw("yes"), rawLe), op(api.Iff, app("yes", api.SBool), le)},
		{op(api.Eq, hole(0, raw("x")), raw("p")), op(api.Iff, hole(0, x), p)},
		{op(api.Eq, op(api.Eq, raw("x"), num(1)), op(api.Eq, raw("p"), raw("q"))), op(api.Iff, op(api.Eq, x, num(1)), op(api.Iff, p, q))},
		{op(api.Not, call("pred", op(api.Eq, raw("p"), rawLe))), op(api.Not, app("pred", api.SBool, op(api.Iff, p, le)))},
		{op(api.Eq, raw("l"), raw("nil")), op(api.Eq, o("l"), app("nil", api.SObj))},
		{op(api.Eq, raw("s"), op(api.Empty)), op(api.Eq, s("s"), op(api.Empty))},
	} {
		expectResolved(t, c.n, c.want)
	}
	for _, n := range []api.Node{op(api.Eq, raw("p"), raw("x")), op(api.Eq, raw("x"), raw("p")), op(api.Eq, raw("p")),
		op(api.Eq, raw("p"), raw("q"), raw("p")), op(api.Eq), op(api.Iff, raw("x"), raw("x"))} {
		expectError(t, n, api.ErrForm)
	}
}

func TestResolveNames(t *testing.T) {
	for _, n := range []api.Node{
		raw("w"), raw(""), raw("true"), raw("len"), raw("late"), raw("pred"),
		call("w"), call("w", raw("x")), call("x"), call("x", raw("x")), call(""),
		op(api.And, raw("p"), op(api.Le, raw("w"), num(1))), hole(1, raw("w")), call("len", raw("w")),
		op(99, raw("w")), op(api.Le, raw("s"), raw("w")), call("pred", call("late", call("w"))),
	} {
		expectError(t, n, api.ErrNone)
	}
	if _, e := logic.Resolve(raw("x"), nil, nil); e != api.ErrNone {
		t.Errorf("P1.6: no names at all: %d", e)
	}
}

func TestResolveForms(t *testing.T) {
	kid := func(name string) api.Node { return api.Node{Op: api.Var, Name: name, Kids: []api.Node{raw("x")}} }
	for _, n := range []api.Node{
		// another number of kids than the sig has
		call("len"), call("len", raw("l"), raw("l")), call("zero", raw("x")), call("late"), call("any", raw("l")), call("full", manyRaw(7)...),
		// not well sorted
		{}, op(99), op(api.Le, raw("x"), raw("s")), op(api.Le, raw("x")), op(api.And, raw("p"), raw("x")), raw("none"), raw("beyond"), raw("sortless"),
		raw("sel"), num(api.MaxNum + 1), hole(api.MaxUnknown, raw("x")), hole(0), call("wide", manyRaw(9)...),
		{Op: api.Var, Name: "x", Num: 1}, {Op: api.App, Name: "zero", Num: 1}, {Op: api.Int, Sort: api.SInt}, {Op: api.True, Name: "x"},
		op(api.Ite, raw("p"), raw("q"), raw("p")),
		// a Var with kids
		kid("x"), kid("zero"), op(api.Not, kid("p")), op(api.Not, kid("yes")),
		// not uniform
		op(api.Eq, raw("both"), call("both")),
		// an argument of another sort than the sig says
		call("len", raw("x")), call("len", raw("p")), call("pred", raw("x")), call("any", raw("l"), raw("l")), call("any", raw("p"), raw("x")),
		call("strange", raw("x")), op(api.Not, call("pred", call("len", raw("l")))), hole(0, call("late", raw("s"))),
	} {
		expectError(t, n, api.ErrForm)
	}
}

func TestResolveLimits(t *testing.T) {
	full := sized(api.MaxNodes, raw("p"))
	if got, e := logic.Resolve(full, declared(), nil); e != api.OK || logic.Size(got) != api.MaxNodes {
		t.Errorf("P1.6: %d", e)
	}
	expectResolved(t, chain(api.Neg, api.MaxNest-1, raw("zero")), chain(api.Neg, api.MaxNest-1, app("zero", api.SInt)))
	for _, leaf := range []api.Node{raw("p"), raw("w"), call("len"), op(99)} {
		expectError(t, sized(api.MaxNodes+1, leaf), api.ErrLimit)
		expectError(t, chain(api.Not, api.MaxNest, leaf), api.ErrLimit)
	}
}

// A name that is missing anywhere counts ahead of a wrong form anywhere (R2), be that the number of kids or another.
func TestResolveOrder(t *testing.T) {
	unknown, unsigned := op(api.Le, raw("w"), num(1)), op(api.Not, call("w"))
	for _, wrong := range []api.Node{
		call("pred"), call("pred", raw("p"), raw("p")), call("yes", raw("x")), op(api.Le, call("late"), num(1)),
		op(api.Le, raw("s"), raw("l")), op(api.Le, raw("x")), op(99), hole(0),
		{Op: api.Var, Name: "p", Kids: []api.Node{raw("x")}}, {Op: api.Var, Name: "yes", Kids: []api.Node{raw("x")}},
		op(api.Le, call("len", raw("x")), num(1)), op(api.Eq, raw("both"), call("both")),
	} {
		expectError(t, op(api.And, wrong, raw("p")), api.ErrForm)
		expectError(t, op(api.And, wrong, unknown), api.ErrNone)
		expectError(t, op(api.And, unknown, wrong), api.ErrNone)
		expectError(t, op(api.Or, op(api.Not, wrong), unsigned), api.ErrNone)
		wrong.Kids = append([]api.Node{unknown}, wrong.Kids...)
		expectError(t, wrong, api.ErrNone)
	}
	for _, n := range []api.Node{
		// the missing name stands in the application with the wrong number of kids, below it or above it
		call("zero", raw("w")), call("len", raw("w"), raw("l")), call("len", raw("l"), call("any", raw("w"))),
		call("w", call("len")), call("pred", unknown, call("pred")), call("late", call("late", raw("x"), raw("late"))),
		op(api.Le, call("zero", num(1)), raw("w")), op(api.Le, raw("w"), call("zero", num(1))),
		{Op: api.Var, Name: "x", Kids: []api.Node{raw("w")}}, {Op: api.Var, Name: "w", Kids: []api.Node{call("len")}},
	} {
		expectError(t, n, api.ErrNone)
	}
	expectError(t, op(api.Le, call("zero", num(1)), raw("x")), api.ErrForm)
	// limits stand ahead of both
	expectError(t, chain(api.Not, api.MaxNest, op(api.And, call("pred"), unknown)), api.ErrLimit)
}
