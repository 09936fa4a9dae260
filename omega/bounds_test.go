package omega_test

import (
	"testing"

	"quantale/api"
	"quantale/omega"
)

func TestBounds(t *testing.T) {
	box := list(atMost(over(-3, -1)), atMost(over(-5, 1)), atMost(over(2, 0, -1)), atMost(over(-4, 0, 1)))
	for i, c := range []struct {
		cons        []api.Con
		f           api.Lin
		least, most int64
		kind        int
		e           api.Errno
	}{
		// -3 <= x <= 5, 2 <= y <= 4.
		{box, over(0, 1), -3, 5, 1, api.OK},
		{box, over(0, 0, -1), -4, -2, 1, api.OK},
		{box, over(10, 2, -3), -8, 14, 1, api.OK},
		{with(box, zero(over(-1, 1, 1))), over(0, 1), -3, -1, 1, api.OK},
		{with(box, zero(over(0, 2, 1))), over(0, 1, 1), 1, 2, 1, api.OK},
		{box, lin(7), 7, 7, 1, api.OK}, {nil, lin(-7), -7, -7, 1, api.OK}, {nil, lin(0), 0, 0, 1, api.OK},
		// Only integers count: 2 <= 4x - 1 <= 10, 3x + 4y = 0.
		{list(atMost(over(3, -4)), atMost(over(-11, 4))), over(0, 1), 1, 2, 1, api.OK},
		{list(zero(over(0, 3, 4)), atMost(over(1, -1)), atMost(over(-10, 1))), over(0, 1, 1), 1, 2, 1, api.OK},
		{list(atMost(over(-1, 2, 2)), atMost(over(-1, -2, -2))), over(0, 1, 1), 0, 0, 1, api.OK},
		// No solution.
		{with(box, zero(over(-10, 1, 1))), over(0, 1), 0, 0, 0, api.OK},
		{list(atMost(lin(1))), over(0, 0, 0, 1), 0, 0, 0, api.OK},
		{list(zero(over(-1, 2))), lin(3), 0, 0, 0, api.OK},
		// No least value, no greatest one, neither of them.
		{nil, over(0, 1), 0, 0, 7, api.OK}, {box, over(0, 0, 0, 1), 0, 0, 7, api.OK}, {box, over(0, 1, 0, 1), 0, 0, 7, api.OK},
		{list(atMost(over(-3, 1))), over(0, 1), 0, 3, 3, api.OK},
		{list(atMost(over(-3, 1))), over(0, -1), -3, 0, 5, api.OK},
		{list(atMost(over(-7, 2))), over(1, 2), 0, 7, 3, api.OK},
		{list(atMost(over(-7, 2))), over(1, -2), -5, 0, 5, api.OK},
		{list(atMost(over(1, 1, -1))), over(0, 1, -1), 0, -1, 3, api.OK},
		{list(atMost(over(1, 1, -1)), atMost(over(0, 0, 1))), over(0, 1, 1), 0, -1, 3, api.OK},
		{list(zero(over(-1, 3, -4))), over(0, 3, -4), 1, 1, 1, api.OK},
		{list(zero(over(-1, 3, -4))), over(0, 1), 0, 0, 7, api.OK},
		{list(zero(over(-1, 3, -4)), atMost(over(4, -1))), over(0, 1), 7, 0, 5, api.OK},
		// Plain ones at their bounds.
		{list(atMost(over(-1000000, 1)), atMost(over(-1000000, -1))), over(1000000, 100), -99000000, 101000000, 1, api.OK},
		{list(atMost(over(-1000000, 1)), atMost(over(-1000000, -1, 1)), atMost(over(-1000000, 0, 0, 1)), atMost(over(-1000000, 0, -1, 1))), over(0, 0, 1, 1), 0, 3000000, 3, api.OK},
		// Errors.
		{list(api.Con{Form: over(0, 1), Rel: 2}), over(0, 1), 0, 0, 0, api.ErrForm},
		{list(zero(lin(1)), atMost(lin(0, mono(1, y), mono(1, x)))), over(0, 1), 0, 0, 0, api.ErrForm},
		{nil, lin(0, mono(1, y), mono(1, x)), 0, 0, 0, api.ErrForm}, {list(zero(lin(1))), lin(0, mono(0, x)), 0, 0, 0, api.ErrForm},
		{nil, lin(great + 1), 0, 0, 0, api.ErrForm}, {nil, lin(0, mono(1, doubled(80, x))), 0, 0, 0, api.ErrForm},
		{cycle(201), over(0, 1), 0, 0, 0, api.ErrForm},
		// Bounds of 10^9 are looked for, and no greater ones.
		{list(atMost(over(-1000000000, 1)), atMost(over(-1000000000, -1))), over(0, 1), -1000000000, 1000000000, 1, api.OK},
		{list(atMost(over(-1000000001, 1))), over(0, 1), 0, 0, 0, api.ErrBudget},
		{list(atMost(over(1000000001, 1))), over(0, 1), 0, 0, 0, api.ErrBudget},
		{list(atMost(over(1000000000, 1))), over(0, 1), 0, -1000000000, 3, api.OK},
		{list(atMost(over(1000000001, -1))), over(0, 1), 0, 0, 0, api.ErrBudget},
		{list(atMost(over(-1000000001, -1))), over(0, 1), 0, 0, 0, api.ErrBudget},
		{nil, lin(great), 0, 0, 0, api.ErrBudget}, {nil, lin(-great), 0, 0, 0, api.ErrBudget}, {nil, over(great, great), 0, 0, 7, api.OK},
		{list(zero(over(0, 1, -great)), zero(over(0, 0, 1, -great)), atMost(over(1, 0, 0, -1))), over(0, 0, 0, 1), 0, 0, 0, api.ErrBudget},
	} {
		least, most, kind, e := omega.Bounds(c.cons, c.f)
		if least != c.least || most != c.most || kind != c.kind || e != c.e {
			t.Errorf("P5.3: case %d: %d, %d, %d, %d", i, least, most, kind, e)
		}
	}
}

func TestBoundsOfManyConstraints(t *testing.T) {
	// A chain, each 1 more than the one before it.
	l, atoms := cycle(100), letters(100)
	least, most, kind, e := omega.Bounds(l[:99], lin(0, mono(-1, atoms[0]), mono(1, atoms[99])))
	if least != 99 || most != 0 || kind != 5 || e != api.OK {
		t.Errorf("P5.3: %d, %d, %d, %d", least, most, kind, e)
	}
	l = cycle(200)
	if least, most, kind, e = omega.Bounds(l, lin(0, mono(1, atoms[0]))); least != 0 || most != 0 || kind != 0 || e != api.OK {
		t.Errorf("P5.3: %d, %d, %d, %d", least, most, kind, e)
	}
}
