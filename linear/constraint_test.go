package linear_test

import (
	"testing"

	"quantale/api"
	"quantale/linear"
)

func expectRound(t *testing.T, c, want api.Con) {
	t.Helper()
	got, e := linear.Round(c)
	if e != api.OK || !sameCon(got, want) {
		t.Errorf("P4.2: Round(%v) is %v, %d, not %v", c, got, e, want)
	}
	if again, e := linear.Round(got); e != api.OK || !sameCon(again, got) {
		t.Errorf("P4.2: what is rounded stays: Round(%v) is %v, %d", got, again, e)
	}
}

func TestRoundAtMostZero(t *testing.T) {
	// ax + c <= 0
	for _, c := range [][4]int64{{2, -3, 1, -1}, {2, -4, 1, -2}, {2, 3, 1, 2}, {2, 4, 1, 2}, {2, 0, 1, 0}, {2, 1, 1, 1}, {2, -1, 1, 0}, {-2, -3, -1, -1}, {-2, 3, -1, 2}, {-2, 1, -1, 1}, {1, -3, 1, -3}, {-1, 7, -1, 7},
		{7, -6, 1, 0}, {7, -7, 1, -1}, {7, -8, 1, -1}, {7, 6, 1, 1}, {7, 7, 1, 1}, {7, 8, 1, 2}, {-7, -20, -1, -2}, {-7, 20, -1, 3}, {great, 1, 1, 1}, {great, -1, 1, 0}, {great, great, 1, 1}, {-great, -great, -1, -1},
		{great - 1, great, 1, 2}, {great - 1, -great, 1, -1}, {1, great, 1, great}, {-1, -great, -1, -great}, {2, great, 1, great / 2}, {2, -great + 1, 1, -great/2 + 1}} {
		expectRound(t, atMost(lin(c[1], mono(c[0], x))), atMost(lin(c[3], mono(c[2], x))))
	}
	expectRound(t, atMost(lin(-7, mono(6, x), mono(-9, y))), atMost(lin(-2, mono(2, x), mono(-3, y))))
	expectRound(t, atMost(lin(7, mono(-6, x), mono(-9, y))), atMost(lin(3, mono(-2, x), mono(-3, y))))
	expectRound(t, atMost(lin(7, mono(6, x), mono(-10, y), mono(15, z))), atMost(lin(7, mono(6, x), mono(-10, y), mono(15, z))))
	expectRound(t, atMost(lin(7, mono(12, x), mono(-20, y), mono(30, z))), atMost(lin(4, mono(6, x), mono(-10, y), mono(15, z))))
	expectRound(t, atMost(lin(9, mono(4, x), mono(4, u))), atMost(lin(3, mono(1, x), mono(1, u))))
	expectRound(t, atMost(wide(500, -6, -7)), atMost(wide(500, -1, -1)))
}

func TestRoundZero(t *testing.T) {
	for _, c := range [][4]int64{{2, -4, 1, -2}, {2, 4, 1, 2}, {2, 0, 1, 0}, {-2, 4, 1, -2}, {-2, -4, 1, 2}, {-2, 0, 1, 0}, {1, 5, 1, 5}, {-1, 5, 1, -5}, {7, 21, 1, 3}, {-7, 21, 1, -3}, {great, great, 1, 1}, {-great, great, 1, -1},
		{-1, great, 1, -great}, {-1, -great, 1, great}} {
		expectRound(t, zero(lin(c[1], mono(c[0], x))), zero(lin(c[3], mono(c[2], x))))
	}
	expectRound(t, zero(lin(6, mono(-4, x), mono(2, y))), zero(lin(-3, mono(2, x), mono(-1, y))))
	expectRound(t, zero(lin(6, mono(4, x), mono(-2, y))), zero(lin(3, mono(2, x), mono(-1, y))))
	expectRound(t, zero(lin(1, mono(-3, x), mono(2, y))), zero(lin(-1, mono(3, x), mono(-2, y))))
	contradiction := zero(lin(1))
	for _, c := range []api.Lin{lin(-3, mono(2, x)), lin(3, mono(2, x)), lin(3, mono(-2, x)), lin(1, mono(great, x)), lin(20, mono(-7, x)), lin(5, mono(6, x), mono(-9, y)), lin(-1, mono(-4, x), mono(-2, y)), lin(great, mono(3, x))} {
		expectRound(t, zero(c), contradiction)
	}
}

func TestRoundOfConstants(t *testing.T) {
	for _, n := range []int64{0, 1, -1, 5, -5, great, -great} {
		for _, rel := range []int{0, 1} {
			expectRound(t, api.Con{Form: lin(n), Rel: rel}, api.Con{Form: lin(n), Rel: rel})
		}
	}
}

// badCons are no constraints.
func badCons() []api.Con {
	l := []api.Con{{Rel: 2}, {Rel: -1}, {Form: lin(1, mono(1, x)), Rel: 2}, {Form: lin(1, mono(1, x)), Rel: -1}}
	for _, f := range []api.Lin{lin(great + 1), lin(-great - 1), lin(0, mono(0, x)), lin(0, mono(great+1, x)), lin(0, mono(1, y), mono(1, x)), lin(0, mono(1, x), mono(1, x)), lin(0, mono(1, num(3))), lin(1, mono(2, node(99))),
		lin(0, mono(1, doubled(90, x)), mono(1, doubled(90, x))), lin(0, mono(1, variable("s", api.SSet)))} {
		l = append(l, zero(f), atMost(f))
	}
	return l
}

func TestRoundErrors(t *testing.T) {
	for k, c := range badCons() {
		if got, e := linear.Round(c); e != api.ErrForm || !sameCon(got, api.Con{}) {
			t.Errorf("P4.2: case %d: Round is %v, %d, not ErrForm", k, got, e)
		}
	}
}

func TestContradictory(t *testing.T) {
	for _, n := range []int64{0, 1, -1, 2, -2, 1000, -1000, great, -great} {
		if linear.Contradictory(zero(lin(n))) != (n != 0) || linear.Contradictory(atMost(lin(n))) != (n > 0) {
			t.Errorf("P4.2: Contradictory of the constant %d", n)
		}
		for _, f := range []api.Lin{lin(n, mono(1, x)), lin(n, mono(2, x), mono(-2, y))} {
			if linear.Contradictory(zero(f)) || linear.Contradictory(atMost(f)) {
				t.Errorf("P4.2: Contradictory of a constraint with monomials, constant %d", n)
			}
		}
	}
	if !linear.Contradictory(zero(api.Lin{Monos: []api.Mono{}, Const: 1})) || linear.Contradictory(api.Con{}) {
		t.Error("P4.2")
	}
	bad := append(badCons(), api.Con{Form: lin(1), Rel: 2}, api.Con{Form: lin(1), Rel: -1}, zero(lin(1, mono(0, x))))
	for k, c := range bad {
		if linear.Contradictory(c) {
			t.Errorf("P4.2: case %d: what is not valid is not contradictory", k)
		}
	}
}

func expectSays(t *testing.T, n api.Node, truth bool, want api.Con) {
	t.Helper()
	got, ok, e := linear.FromLiteral(n, truth)
	if e != api.OK || !ok || len(got) != 1 || !sameCon(got[0], want) {
		t.Errorf("P4.3: FromLiteral(%v, %v) is %v, %v, %d, not %v", n, truth, got, ok, e, want)
	}
}

func expectSilent(t *testing.T, n api.Node, truth bool, want api.Errno) {
	t.Helper()
	if got, ok, e := linear.FromLiteral(n, truth); e != want || ok || len(got) != 0 {
		t.Errorf("P4.3: FromLiteral(%v, %v) is %v, %v, %d, not none and %d", n, truth, got, ok, e, want)
	}
}

func TestFromLiteral(t *testing.T) {
	nil3, w := read(t, "nil"), read(t, "w")
	for text, want := range map[string][2]api.Con{
		"x = y":             {zero(lin(0, mono(1, x), mono(-1, y))), {}},
		"2 * y = 4 * x + 6": {zero(lin(-6, mono(-4, x), mono(2, y))), {}}, // neither rounded nor negated
		"x = x":             {zero(lin(0)), {}},
		"1 = 3":             {zero(lin(-2)), {}},
		"u = w":             {zero(lin(0, mono(1, u), mono(-1, w))), {}},
		"u = u":             {zero(lin(0)), {}},
		"u = nil":           {zero(lin(0, mono(1, u), mono(-1, nil3))), {}},
		"x <= y":            {atMost(lin(0, mono(1, x), mono(-1, y))), atMost(lin(1, mono(-1, x), mono(1, y)))},
		"x < y":             {atMost(lin(1, mono(1, x), mono(-1, y))), atMost(lin(0, mono(-1, x), mono(1, y)))},
		"2 * x <= 4":        {atMost(lin(-4, mono(2, x))), atMost(lin(5, mono(-2, x)))},
		"2 * x + 7 < 3 * y": {atMost(lin(8, mono(2, x), mono(-3, y))), atMost(lin(-7, mono(-2, x), mono(3, y)))},
		"x < x":             {atMost(lin(1)), atMost(lin(0))},
		"x <= x":            {atMost(lin(0)), atMost(lin(1))},
		"f(x + 1) <= len(u)": {atMost(lin(0, mono(1, read(t, "f(x + 1)")), mono(-1, read(t, "len(u)")))),
			atMost(lin(1, mono(-1, read(t, "f(x + 1)")), mono(1, read(t, "len(u)"))))},
	} {
		n := read(t, text)
		expectSays(t, n, true, want[0])
		if n.Op == api.Eq {
			expectSilent(t, n, false, api.OK)
		} else {
			expectSays(t, n, false, want[1])
		}
	}
}

func TestFromLiteralOfOtherFormulas(t *testing.T) {
	for _, text := range []string{"p", "is(u)", "true", "false", "!(x <= y)", "!(x = y)", "x != y", "x <= y && x <= y", "x <= y || p", "x <= y => p", "x <= y <=> x < y", "s = s", "a = sto(a, 1, 2)", "x in s", "s sub s"} {
		expectSilent(t, read(t, text), true, api.OK)
		expectSilent(t, read(t, text), false, api.OK)
	}
	hole := api.Node{Op: api.Hole, Num: 1, Kids: []api.Node{x, y}}
	expectSilent(t, hole, true, api.OK)
	within := node(api.Le, call("of", api.SInt, hole), x)
	expectSays(t, within, true, atMost(lin(0, mono(-1, x), mono(1, within.Kids[0]))))
}

func TestFromLiteralErrors(t *testing.T) {
	for e, l := range wrong() {
		for k, n := range l {
			for _, truth := range []bool{true, false} {
				if cons, ok, got := linear.FromLiteral(n, truth); got != e || ok || len(cons) != 0 {
					t.Errorf("P4.3: %d of %d: %v, %v, %d", k, e, cons, ok, got)
				}
			}
		}
	}
	for _, truth := range []bool{true, false} {
		expectSilent(t, read(t, "x + 1"), truth, api.ErrSort)
		expectSilent(t, read(t, "u"), truth, api.ErrSort)
		expectSilent(t, node(api.Le, x, u), truth, api.ErrForm)
		expectSilent(t, node(api.Eq, x, u), truth, api.ErrForm)
		expectSilent(t, node(api.Le, x, chain(api.Neg, api.MaxNest-1, x)), truth, api.ErrLimit)
	}
}

func TestFromLiteralGreatNumbers(t *testing.T) {
	for _, c := range []struct {
		leaf api.Node
		of   func(n int64) api.Lin
	}{{x, func(n int64) api.Lin { return lin(0, mono(n, x)) }}, {num(1), func(n int64) api.Lin { return lin(n) }}} {
		most := scale(1<<26, scale(1<<27, c.leaf))
		beyond := node(api.Add, most, c.leaf)
		for _, op := range []int{api.Eq, api.Le, api.Lt} {
			expectSilent(t, node(op, beyond, y), true, api.ErrLimit)
			expectSilent(t, node(op, y, beyond), true, api.ErrLimit)
			expectSilent(t, node(op, beyond, beyond), true, api.ErrLimit)
			expectSilent(t, node(op, most, scale(-1, c.leaf)), true, api.ErrLimit)
			expectSilent(t, node(op, scale(-1, most), scale(2, c.leaf)), true, api.ErrLimit)
		}
		for _, op := range []int{api.Le, api.Lt} {
			expectSilent(t, node(op, beyond, y), false, api.ErrLimit)
			expectSilent(t, node(op, beyond, beyond), false, api.ErrLimit)
			expectSilent(t, node(op, scale(-1, c.leaf), most), false, api.ErrLimit)
		}
		// An Eq that is false says nothing, whatever its numbers are.
		expectSilent(t, node(api.Eq, beyond, y), false, api.OK)
		expectSays(t, node(api.Eq, most, num(0)), true, zero(c.of(great)))
		expectSays(t, node(api.Le, most, num(0)), true, atMost(c.of(great)))
		expectSays(t, node(api.Lt, num(0), most), false, atMost(c.of(great)))
	}
}

// The constraint's own numbers count, with the 1 that is added: it may be too much, and it may be what makes the constraint valid.
func TestFromLiteralOfStrictConstraints(t *testing.T) {
	most := scale(1<<26, scale(1<<27, num(1)))
	least := scale(-1, most)
	for _, c := range []struct {
		less, more api.Node
		want       api.Con
		e          api.Errno
	}{
		{most, num(0), api.Con{}, api.ErrLimit},
		{most, num(1), atMost(lin(great)), api.OK},
		{num(0), most, atMost(lin(1 - great)), api.OK},
		{least, num(0), atMost(lin(1 - great)), api.OK},
		{least, num(1), atMost(lin(-great)), api.OK},
		{num(-1), most, atMost(lin(-great)), api.OK},
		{least, num(2), api.Con{}, api.ErrLimit},
		{num(-2), most, api.Con{}, api.ErrLimit},
		{least, most, api.Con{}, api.ErrLimit},
		{node(api.Add, x, least), node(api.Add, num(1), y), atMost(lin(-great, mono(1, x), mono(-1, y))), api.OK},
		{node(api.Add, least, scale(-1, x)), node(api.Sub, num(1), x), atMost(lin(-great)), api.OK},
		{node(api.Add, x, least), node(api.Add, num(2), y), api.Con{}, api.ErrLimit},
		// Neither are coefficients saved by the 1, nor a side that is too great, whatever the other one is.
		{node(api.Add, scale(-great>>20, scale(1<<20, x)), least), node(api.Add, x, num(1)), api.Con{}, api.ErrLimit},
		{node(api.Sub, least, num(1)), num(0), api.Con{}, api.ErrLimit},
		{node(api.Sub, least, num(1)), num(-1), api.Con{}, api.ErrLimit},
		{num(0), node(api.Add, most, num(1)), api.Con{}, api.ErrLimit},
	} {
		for n, truth := range map[*api.Node]bool{{Op: api.Lt, Kids: []api.Node{c.less, c.more}}: true, {Op: api.Le, Kids: []api.Node{c.more, c.less}}: false} {
			if c.e == api.OK {
				expectSays(t, *n, truth, c.want)
			} else {
				expectSilent(t, *n, truth, c.e)
			}
		}
	}
	// What is not strict has no 1.
	expectSilent(t, node(api.Le, least, num(1)), true, api.ErrLimit)
	expectSilent(t, node(api.Lt, num(1), least), false, api.ErrLimit)
	expectSilent(t, node(api.Eq, least, num(1)), true, api.ErrLimit)
	expectSays(t, node(api.Le, least, num(0)), true, atMost(lin(-great)))
	expectSays(t, node(api.Lt, num(0), least), false, atMost(lin(-great)))
	// The form of a term is looked at on the way, too.
	expectNoOf(t, node(api.Add, node(api.Sub, least, num(1)), num(1)), api.ErrLimit)
	expectOf(t, node(api.Sub, least, num(0)), lin(-great))
}

func TestConstraintsShareNothing(t *testing.T) {
	n := read(t, "2 * f(x) <= 2 * f(y)")
	want, _, _ := linear.FromLiteral(read(t, "2 * f(x) <= 2 * f(y)"), true)
	got, _, e := linear.FromLiteral(n, true)
	spoilNode(n)
	if e != api.OK || !sameCon(got[0], want[0]) {
		t.Error("R3: FromLiteral shares memory with its argument")
	}
	fx, fy := read(t, "f(x)"), read(t, "f(y)")
	rounded, e := linear.Round(got[0])
	// This one is divided by 1.
	again, e2 := linear.Round(rounded)
	spoilCons(got)
	if e != api.OK || !sameCon(rounded, atMost(lin(0, mono(1, fx), mono(-1, fy)))) {
		t.Error("R3: Round shares memory with its argument")
	}
	spoil(rounded.Form)
	if e2 != api.OK || !sameCon(again, atMost(lin(0, mono(1, fx), mono(-1, fy)))) {
		t.Error("R3: Round shares memory with its argument")
	}
	// Nor room that lies behind an empty list.
	room := lin(0, mono(1, x), mono(1, y))
	rounded, e = linear.Round(zero(api.Lin{Monos: room.Monos[:0], Const: 3}))
	if _ = append(rounded.Form.Monos, mono(5, z)); e != api.OK || !same(room, lin(0, mono(1, x), mono(1, y))) {
		t.Error("R3: Round shares memory with its argument")
	}
}
