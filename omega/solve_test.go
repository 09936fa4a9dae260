package omega_test

import (
	"testing"

	"quantale/api"
	"quantale/linear"
	"quantale/omega"
)

func TestSolve(t *testing.T) {
	u := variable("u", api.SObj)
	for i, c := range []struct {
		cons []api.Con
		want bool
	}{
		{list(), true}, {list(atMost(lin(0))), true}, {list(zero(lin(0)), atMost(lin(-7))), true},
		{list(zero(lin(3))), false}, {list(zero(lin(-3))), false}, {list(atMost(lin(1))), false}, {list(atMost(over(0, 1)), atMost(lin(1))), false},
		// x < y < x, x <= y <= x.
		{list(atMost(over(1, 1, -1)), atMost(over(1, -1, 1))), false},
		{list(atMost(over(0, 1, -1)), atMost(over(0, -1, 1))), true},
		// Objects are numbers here.
		{list(zero(lin(0, mono(1, x), mono(-1, u))), atMost(lin(1, mono(1, u))), atMost(lin(-1, mono(-1, x)))), true},
		{list(zero(lin(0, mono(1, x), mono(-1, u))), atMost(lin(1, mono(1, u))), atMost(lin(0, mono(-1, x)))), false},
		// Integers alone have these contradictions.
		{list(zero(over(-1, 2))), false}, {list(zero(over(-3, 6, 9))), true}, {list(zero(over(-4, 6, 9))), false},
		{list(atMost(over(1, 2)), atMost(over(-1, -2))), false},
		{list(zero(over(-1, 1, 1)), zero(over(0, 1, -1))), false},
		{list(zero(over(-2, 1, 1)), zero(over(0, 1, -1))), true},
		{list(atMost(over(-1, 1, 1)), atMost(over(1, -1, -1)), atMost(over(0, 1, -1)), atMost(over(0, -1, 1))), false},
		{list(zero(over(-1, 1, 1)), zero(over(-1, 0, 1, 1)), zero(over(-1, 1, 0, 1))), false},
		{list(zero(over(-2, 1, 1)), zero(over(-2, 0, 1, 1)), zero(over(-2, 1, 0, 1))), true},
		// 1 <= 3x - 4y <= 1, at a distance and with other bounds.
		{list(zero(over(-1, 3, -4)), atMost(over(900, -1))), true},
		{list(zero(over(-1, 3, -4)), atMost(over(4, -1)), atMost(over(-6, 1))), false},
		{list(zero(over(-1, 3, -4)), atMost(over(3, -1)), atMost(over(-6, 1))), true},
		{list(atMost(over(-1, 3, -4)), atMost(over(1, -3, 4)), atMost(over(4, -1)), atMost(over(-6, 1))), false},
		// Pugh's example 27 <= 11x + 13y <= 45, -10 <= 7x - 9y <= 4 has no solution.
		{list(atMost(over(27, -11, -13)), atMost(over(-45, 11, 13)), atMost(over(-10, -7, 9)), atMost(over(-4, 7, -9))), false},
		// A triangle around (1/2, 1/2) without integers, and one with them.
		{list(atMost(over(1, -4, 2)), atMost(over(1, 2, -4)), atMost(over(-3, 3, 2))), false},
		{list(atMost(over(0, -4, 2)), atMost(over(0, 2, -4)), atMost(over(-5, 3, 2))), true},
		// The first of them for x + z and y + z: no atom has a bound.
		{list(atMost(over(1, -4, 2, -2)), atMost(over(1, 2, -4, -2)), atMost(over(-3, 3, 2, 5))), false},
		{list(atMost(over(0, -4, 2, -2)), atMost(over(0, 2, -4, -2)), atMost(over(-5, 3, 2, 5))), true},
		// A coefficient beyond those of small ones.
		{list(atMost(over(30, -70, 41)), atMost(over(30, 41, -70)), atMost(over(-30, 31, 23))), false},
		// Euclid needs several changes.
		{list(zero(over(-1, 17, 12, 31)), atMost(over(2, 0, 0, -1))), true},
		{list(zero(over(-1, 10, 15, 6)), zero(over(0, 14, -21, 35))), true},
		{list(zero(over(-1, 10, 15, 6)), zero(over(-7, 14, -21, 35)), zero(over(0, 2, 4, 6))), false},
	} {
		var a answers
		if _, _, sat, e := a.ask(t, c.cons); sat != c.want || e != api.OK {
			t.Errorf("P5.2: case %d: %v, %d", i, sat, e)
		}
	}
}

func TestSolvePlainEdges(t *testing.T) {
	atoms := letters(8)
	var chain []api.Con
	for i := range 7 {
		chain = append(chain, atMost(lin(1000000, mono(1, atoms[i]), mono(-1, atoms[i+1]))))
	}
	var a answers
	// The last one is at least 7 million more than the first one.
	if _, _, sat, _ := a.ask(t, with(chain, atMost(lin(1000000, mono(-1, atoms[0]))))); !sat {
		t.Error("P5.2: a chain has a solution")
	}
	if _, _, sat, _ := a.ask(t, with(chain, atMost(lin(1000000, mono(-1, atoms[0]))), atMost(lin(-1000000, mono(1, atoms[7]))))); sat {
		t.Error("P5.2: the end of a chain")
	}
	if _, _, sat, _ := a.ask(t, with(chain, atMost(lin(-1000000, mono(-1, atoms[0]), mono(1, atoms[7]))))); sat {
		t.Error("P5.2: a chain in a circle")
	}
	for _, n := range []int64{100, -100, 99} {
		for _, rest := range []int64{0, 1, -1, 50, 99, 100, -100, 1000000, -1000000, 999999} {
			if _, _, sat, _ := a.ask(t, list(zero(lin(rest, mono(n, x))))); sat != (rest%n == 0) {
				t.Errorf("P5.2: %d*x + %d = 0: %v", n, rest, sat)
			}
			if _, _, sat, _ := a.ask(t, list(atMost(lin(rest, mono(n, x))), atMost(lin(-rest-1, mono(-n, x))))); sat != (rest%n == 0 || (rest+1)%n == 0) {
				t.Errorf("P5.2: 0 <= -%d*x - %d <= 1: %v", n, rest, sat)
			}
		}
	}
	if a.budget > 0 {
		t.Errorf("P5.2: ErrBudget %d times", a.budget)
	}
}

// cycle says that each of some atoms is at least one more than the one before it, and the first one more than the last.
func cycle(n int) []api.Con {
	l, atoms := []api.Con(nil), letters(n)
	for i, a := range atoms {
		b := atoms[(i+1)%n]
		if i+1 == n {
			a, b = b, a
			l = append(l, atMost(lin(1, mono(-1, a), mono(1, b))))
		} else {
			l = append(l, atMost(lin(1, mono(1, a), mono(-1, b))))
		}
	}
	return l
}

func TestSolveLimits(t *testing.T) {
	var a answers
	l := cycle(200)
	if _, _, sat, e := a.ask(t, l[:199]); !sat || e != api.OK {
		t.Errorf("P5.2: 199 constraints: %v, %d", sat, e)
	}
	if _, _, sat, e := a.ask(t, l); sat || e != api.OK {
		t.Errorf("P5.2: 200 constraints: %v, %d", sat, e)
	}
	for i, cons := range [][]api.Con{
		with(l, zero(lin(0))),
		list(api.Con{Form: over(0, 1), Rel: 2}),
		list(zero(lin(3)), api.Con{Form: over(0, 1), Rel: -1}),
		list(atMost(lin(0, mono(1, y), mono(1, x)))),
		list(atMost(lin(0, mono(1, x), mono(1, x)))),
		list(atMost(lin(0, mono(0, x)))),
		list(atMost(lin(0, mono(great+1, x)))),
		list(zero(lin(3)), atMost(lin(-great-1))),
		list(atMost(lin(0, mono(1, variable("p", api.SBool))))),
		list(atMost(lin(0, mono(1, node(api.Add, x, y))))),
	} {
		atoms, nums, d, sat, e := omega.Solve(cons)
		if e != api.ErrForm || sat || len(atoms)+len(nums) > 0 || !zeroDeriv(d) {
			t.Errorf("P5.2: case %d: %v, %v, %v, %v, %d", i, atoms, nums, d, sat, e)
		}
	}
}

func TestSolveGivesUp(t *testing.T) {
	var a answers
	// All integers that satisfy these are beyond 2^60.
	_, _, _, e := a.ask(t, list(zero(over(0, 1, -great)), zero(over(0, 0, 1, -great)), atMost(over(1, 0, 0, -1))))
	if e != api.ErrBudget {
		t.Errorf("P5.2: %d", e)
	}
	// These are about many atoms.
	var wide []api.Con
	f := lin(0)
	for _, v := range letters(2000) {
		f.Monos = append(f.Monos, mono(2, v))
	}
	for i := range int64(10) {
		f.Const = 4 * i
		wide = append(wide, atMost(f))
	}
	if _, _, sat, e := a.ask(t, wide); !sat || e != api.OK {
		t.Errorf("P5.2: %v, %d", sat, e)
	}
	f.Const++
	if _, _, sat, e := a.ask(t, with(wide, zero(f))); sat || e != api.OK {
		t.Errorf("P5.2: %v, %d", sat, e)
	}
	// At the greatest numbers.
	for _, n := range []int64{great, 1 - great, great - 1} {
		for _, m := range []int64{great, -great, great - 1, 1, 3} {
			a.ask(t, list(zero(over(n, m, n-1)), atMost(over(-m, n, 1, m)), atMost(over(m, 1-n, 7, n))))
			a.ask(t, list(atMost(over(n, m)), atMost(over(m, n)), zero(over(n, m, 1))))
			a.ask(t, list(atMost(over(n, m, 3)), atMost(over(-n, -m, -3)), atMost(over(m, 2, n))))
		}
	}
	if a.sat == 0 || a.unsat == 0 {
		t.Errorf("too few of a kind: %v", a)
	}
}

// narrow says that two atoms are between lines; with wide 0, there are no integers between them.
func narrow(atoms []api.Node, wide int64) []api.Con {
	a, b := atoms[0], atoms[1]
	return list(atMost(lin(6-6*wide, mono(3, a), mono(4, b))), atMost(lin(-12, mono(-4, a), mono(-3, b))), atMost(lin(-4, mono(-1, a))), atMost(lin(1, mono(-1, b))))
}

func TestSolveSharesNothing(t *testing.T) {
	g := call("g", api.SInt, x)
	both := []api.Node{call("f", api.SInt, g), g}
	for wide := range int64(2) {
		cons := narrow(both, wide)
		var a answers
		_, _, sat, _ := a.ask(t, cons)
		atoms, nums, d, _, _ := omega.Solve(cons)
		if sat != (wide == 1) || !sat && !d.Split {
			t.Fatalf("P5.2: %v, split: %v", sat, d.Split)
		}
		spoilDeriv(d)
		for i := range atoms {
			spoilNode(atoms[i])
			atoms[i], nums[i] = node(99), 99
		}
		g := call("g", api.SInt, x)
		fresh := narrow([]api.Node{call("f", api.SInt, g), g}, wide)
		for i, c := range fresh {
			if !linear.Equal(c.Form, cons[i].Form) || c.Rel != cons[i].Rel {
				t.Error("R3: Solve shares memory with its arguments, or changes them")
			}
		}
		a.ask(t, cons)
	}
}
