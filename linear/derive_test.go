package linear_test

import (
	"testing"

	"quantale/api"
	"quantale/linear"
)

func expectStep(t *testing.T, cons []api.Con, s []api.Mult, want api.Con) {
	t.Helper()
	if got, e := linear.Step(cons, s); e != api.OK || !sameCon(got, want) {
		t.Errorf("P4.4: Step of %v over %v is %v, %d, not %v", s, cons, got, e, want)
	}
}

func expectNoStep(t *testing.T, cons []api.Con, s []api.Mult, want api.Errno) {
	t.Helper()
	if got, e := linear.Step(cons, s); e != want || !sameCon(got, api.Con{}) {
		t.Errorf("P4.4: Step of %v over %v is %v, %d, not error %d", s, cons, got, e, want)
	}
}

// some are constraints: x - y + 1 <= 0, y - z <= 0, 2x + z - 3 = 0, 3y + 6 = 0.
func some() []api.Con {
	return []api.Con{atMost(lin(1, mono(1, x), mono(-1, y))), atMost(lin(0, mono(1, y), mono(-1, z))), zero(lin(-3, mono(2, x), mono(1, z))), zero(lin(6, mono(3, y)))}
}

func TestStep(t *testing.T) {
	for _, c := range []struct {
		s    []api.Mult
		want api.Con
	}{
		{[]api.Mult{mult(0, 1)}, some()[0]}, {[]api.Mult{mult(0, 5)}, some()[0]}, {[]api.Mult{mult(2, 1)}, some()[2]}, {[]api.Mult{mult(2, -4)}, some()[2]}, {[]api.Mult{mult(3, 1)}, zero(lin(2, mono(1, y)))},
		{[]api.Mult{mult(0, 1), mult(1, 1)}, atMost(lin(1, mono(1, x), mono(-1, z)))}, {[]api.Mult{mult(1, 2), mult(0, 2)}, atMost(lin(1, mono(1, x), mono(-1, z)))},
		{[]api.Mult{mult(0, 2), mult(1, 3)}, atMost(lin(2, mono(2, x), mono(1, y), mono(-3, z)))}, {[]api.Mult{mult(0, 2), mult(2, -1)}, atMost(lin(5, mono(-2, y), mono(-1, z)))},
		{[]api.Mult{mult(2, 3), mult(3, 1)}, zero(lin(-1, mono(2, x), mono(1, y), mono(1, z)))}, {[]api.Mult{mult(2, 3), mult(3, 2)}, zero(lin(1, mono(2, x), mono(2, y), mono(1, z)))},
		// an Index twice, also so that nothing is left
		{[]api.Mult{mult(0, 1), mult(0, 1)}, some()[0]}, {[]api.Mult{mult(2, 1), mult(2, -1)}, zero(lin(0))}, {[]api.Mult{mult(2, 1), mult(0, 1), mult(2, -1)}, some()[0]}, {[]api.Mult{mult(3, 5), mult(3, -4)}, zero(lin(2, mono(1, y)))},
		{[]api.Mult{mult(0, 1), mult(1, 1), mult(2, 1), mult(3, 1)}, atMost(lin(2, mono(1, x), mono(1, y)))},
	} {
		expectStep(t, some(), c.s, c.want)
	}
	// Rounding is of the sum, not of its parts.
	half := []api.Con{atMost(lin(-1, mono(2, x))), atMost(lin(-1, mono(2, y))), zero(lin(-1, mono(2, x))), zero(lin(1, mono(2, y)))}
	expectStep(t, half, []api.Mult{mult(0, 1), mult(1, 1)}, atMost(lin(-1, mono(1, x), mono(1, y))))
	expectStep(t, half, []api.Mult{mult(0, 1)}, atMost(lin(0, mono(1, x))))
	expectStep(t, half, []api.Mult{mult(2, 1)}, zero(lin(1)))
	expectStep(t, half, []api.Mult{mult(2, 1), mult(3, 1)}, zero(lin(0, mono(1, x), mono(1, y))))
	expectStep(t, half, []api.Mult{mult(2, -1), mult(3, 1)}, zero(lin(-1, mono(1, x), mono(-1, y))))
	expectStep(t, []api.Con{zero(lin(3))}, []api.Mult{mult(0, -5)}, zero(lin(-15)))
	expectStep(t, []api.Con{atMost(lin(-3)), zero(lin(0))}, []api.Mult{mult(0, 5), mult(1, 1)}, atMost(lin(-15)))
	expectStep(t, []api.Con{zero(wide(300, 2, 0)), zero(wide(200, 4, 2))}, []api.Mult{mult(0, -2), mult(1, 1)}, zero(lin(1)))
	expectStep(t, []api.Con{zero(wide(300, 2, 1)), zero(wide(200, 4, 6))}, []api.Mult{mult(0, -2), mult(1, 1)}, zero(api.Lin{Monos: wide(300, 1, 0).Monos[200:], Const: -1}))
}

func TestStepIsNone(t *testing.T) {
	cons := some()
	for _, s := range [][]api.Mult{nil, {}, {mult(4, 1)}, {mult(-1, 1)}, {mult(1<<40, 1)}, {mult(-1<<63, 1)}, {mult(0, 0)}, {mult(2, 0)}, {mult(0, -1)}, {mult(1, -1<<63)}, {mult(0, 1), mult(4, 1)}, {mult(-1, 1), mult(0, 1)},
		{mult(0, 1), mult(0, 0)}, {mult(2, 1), mult(3, 0)}, {mult(2, 1), mult(1, -1)}, {mult(0, 2), mult(0, -1)}, {mult(2, 1), mult(3, 1), mult(4, 1)}} {
		expectNoStep(t, cons, s, api.ErrRange)
	}
	expectNoStep(t, nil, nil, api.ErrRange)
	expectNoStep(t, nil, []api.Mult{mult(0, 1)}, api.ErrRange)
	// ErrRange stands ahead of ErrLimit, wherever the number is.
	big := append(some(), zero(lin(great, mono(1, x))))
	expectNoStep(t, big, []api.Mult{mult(4, 2), mult(0, 0)}, api.ErrRange)
	expectNoStep(t, big, []api.Mult{mult(4, 2), mult(5, 1)}, api.ErrRange)
	expectNoStep(t, big, []api.Mult{mult(0, -1), mult(4, 2)}, api.ErrRange)
}

func TestStepErrForm(t *testing.T) {
	for _, bad := range badCons() {
		for at := range 3 {
			cons := some()
			cons[at] = bad
			for _, s := range [][]api.Mult{{mult(at, 1)}, {mult(3, 1)}, {}, {mult(9, 1)}, {mult(3, 1<<62)}} {
				if got, e := linear.Step(cons, s); e != api.ErrForm || !sameCon(got, api.Con{}) {
					t.Errorf("P4.4: %v, %d, not ErrForm", got, e)
				}
			}
		}
	}
}

func TestStepGreatNumbers(t *testing.T) {
	cons := []api.Con{zero(lin(0, mono(1, x))), zero(lin(1)), atMost(lin(great, mono(great, x))), zero(lin(-great, mono(-great, x))), zero(lin(0, mono(great, x), mono(1, y)))}
	const most = 1<<63 - 1
	for _, n := range []int64{great + 1, -great - 1, most, -1 << 63, 1 << 62} {
		expectNoStep(t, cons, []api.Mult{mult(0, n)}, api.ErrLimit)
		expectNoStep(t, cons, []api.Mult{mult(1, n)}, api.ErrLimit)
		expectNoStep(t, cons, []api.Mult{mult(0, 1), mult(1, n)}, api.ErrLimit)
		expectNoStep(t, cons, []api.Mult{mult(3, n)}, api.ErrLimit)
	}
	// A number is too great ahead of rounding, though rounding would make it small; the sum alone counts, not what is summed.
	expectStep(t, cons, []api.Mult{mult(0, great)}, zero(lin(0, mono(1, x))))
	expectStep(t, cons, []api.Mult{mult(1, great)}, zero(lin(great)))
	expectStep(t, cons, []api.Mult{mult(1, -great)}, zero(lin(-great)))
	expectStep(t, cons, []api.Mult{mult(2, 1)}, atMost(lin(1, mono(1, x))))
	expectNoStep(t, cons, []api.Mult{mult(2, 2)}, api.ErrLimit)
	expectNoStep(t, cons, []api.Mult{mult(4, 2)}, api.ErrLimit)
	expectNoStep(t, cons, []api.Mult{mult(2, 1), mult(3, -1)}, api.ErrLimit)
	expectStep(t, cons, []api.Mult{mult(2, most), mult(3, most)}, atMost(lin(0)))
	expectStep(t, cons, []api.Mult{mult(2, most), mult(3, most-1)}, atMost(lin(1, mono(1, x))))
	expectStep(t, cons, []api.Mult{mult(0, most), mult(0, -most), mult(0, 3)}, zero(lin(0, mono(1, x))))
	expectStep(t, cons, []api.Mult{mult(0, -1<<63), mult(1, 1), mult(0, most)}, zero(lin(-1, mono(1, x))))
	// Sums of many products go beyond 128 bits on their way; the lowest 128 bits of 2^128 alone would be small.
	var s []api.Mult
	for range 4096 {
		s = append(s, mult(3, -1<<63))
	}
	expectNoStep(t, cons, s, api.ErrLimit)
	expectNoStep(t, cons, append(s, mult(3, 1)), api.ErrLimit)
	for range 4096 {
		s = append(s, mult(3, most), mult(3, 1))
	}
	expectStep(t, cons, s, zero(lin(0)))
	expectStep(t, cons, append(s, mult(3, 1)), zero(lin(1, mono(1, x))))
	expectNoStep(t, cons, append(s, mult(3, 2)), api.ErrLimit)
}

func expectRefutes(t *testing.T, cons []api.Con, d api.Deriv, want bool) {
	t.Helper()
	if got, e := linear.Refutes(cons, d); e != api.OK || got != want {
		t.Errorf("P4.4: Refutes(%v, %v) is %v, %d, not %v", cons, d, got, e, want)
	}
}

func expectNoRefutes(t *testing.T, promise string, cons []api.Con, d api.Deriv, want api.Errno) {
	t.Helper()
	if got, e := linear.Refutes(cons, d); e != want || got {
		t.Errorf("%s: Refutes is %v, %d, not error %d", promise, got, e, want)
	}
}

func step(l ...api.Mult) []api.Mult { return l }

func steps(l ...[]api.Mult) api.Deriv { return api.Deriv{Steps: l} }

// split goes on by the cases of a form.
func split(f api.Lin, first, second api.Deriv, l ...[]api.Mult) api.Deriv {
	return api.Deriv{Steps: l, Split: true, Form: f, Kids: []api.Deriv{first, second}}
}

// circle: x < y, y < z, z <= x.
func circle() []api.Con {
	return []api.Con{atMost(lin(1, mono(1, x), mono(-1, y))), atMost(lin(1, mono(1, y), mono(-1, z))), atMost(lin(0, mono(-1, x), mono(1, z)))}
}

func TestRefutesBySteps(t *testing.T) {
	all := step(mult(0, 1), mult(1, 1), mult(2, 1))
	expectRefutes(t, circle(), steps(all), true)
	expectRefutes(t, circle(), steps(step(mult(0, 7), mult(1, 7), mult(2, 7))), true)
	// A step may use the results of those before it, which stand behind the constraints.
	expectRefutes(t, circle(), steps(step(mult(0, 1), mult(1, 1)), step(mult(2, 1), mult(3, 1))), true)
	expectRefutes(t, circle(), steps(step(mult(2, 1)), step(mult(0, 1), mult(1, 1)), step(mult(3, 1), mult(4, 1))), true)
	// The contradiction need not be the last result.
	expectRefutes(t, circle(), steps(all, step(mult(0, 1))), true)
	expectRefutes(t, circle(), steps(step(mult(0, 1)), all, step(mult(4, 1), mult(0, 2))), true)
	expectRefutes(t, circle(), api.Deriv{Steps: [][]api.Mult{all}, Form: api.Lin{Monos: []api.Mono{}}, Kids: []api.Deriv{}}, true)
	// 2x = 1; 4x + 6y = 3; 1 <= 2x <= 1; 0 = 1; 1 <= 0; 0 = -1 by a negative multiple
	expectRefutes(t, []api.Con{zero(lin(-1, mono(2, x)))}, steps(step(mult(0, 1))), true)
	expectRefutes(t, []api.Con{zero(lin(-3, mono(4, x), mono(6, y)))}, steps(step(mult(0, -1))), true)
	expectRefutes(t, []api.Con{atMost(lin(-1, mono(2, x))), atMost(lin(1, mono(-2, x)))}, steps(step(mult(0, 1)), step(mult(1, 1)), step(mult(2, 1), mult(3, 1))), true)
	expectRefutes(t, []api.Con{atMost(lin(-1, mono(2, x))), atMost(lin(1, mono(-2, x)))}, steps(step(mult(0, 1), mult(1, 1))), false)
	expectRefutes(t, []api.Con{zero(lin(1))}, steps(step(mult(0, 1))), true)
	expectRefutes(t, []api.Con{zero(lin(1))}, steps(step(mult(0, -3))), true)
	expectRefutes(t, []api.Con{atMost(lin(1))}, steps(step(mult(0, 1))), true)
	expectRefutes(t, []api.Con{zero(lin(0, mono(1, x))), zero(lin(-1, mono(1, x)))}, steps(step(mult(0, 1), mult(1, -1))), true)
	expectRefutes(t, []api.Con{zero(lin(0, mono(1, u), mono(-1, variable("w", api.SObj)))), atMost(lin(1, mono(1, u), mono(-1, variable("w", api.SObj))))}, steps(step(mult(0, -1), mult(1, 1))), true)
}

func TestRefutesNot(t *testing.T) {
	all := step(mult(0, 1), mult(1, 1), mult(2, 1))
	for k, d := range []api.Deriv{
		{}, {Steps: [][]api.Mult{}}, steps(step(mult(0, 1))), steps(step(mult(0, 1), mult(1, 1)), step(mult(1, 1), mult(2, 1))),
		// steps that are none, also behind a contradiction
		steps(step()), steps(all, step()), steps(step(), all), steps(nil, all), steps(all, step(mult(4, 1))), steps(all, step(mult(-1, 1))), steps(all, step(mult(0, 0))), steps(all, step(mult(0, -1))), steps(step(mult(3, 1)), all),
		steps(step(mult(0, 1), mult(1, 1), mult(2, 1), mult(3, 1))), steps(step(mult(0, 1)), step(mult(0, 1), mult(1, 1), mult(2, 1), mult(4, 1))), steps(all, step(mult(3, -1))),
		// numbers that are too great
		steps(all, step(mult(0, great+1))), steps(step(mult(0, great), mult(1, great+1)), all), steps(step(mult(0, 1<<62), mult(1, 1<<62), mult(2, 1<<62))), steps(all, step(mult(3, great))),
		// other forms
		{Steps: [][]api.Mult{all}, Form: lin(1)}, {Steps: [][]api.Mult{all}, Form: lin(0, mono(1, x))}, {Steps: [][]api.Mult{all}, Form: lin(0, mono(0, node(99)))}, {Steps: [][]api.Mult{all}, Kids: []api.Deriv{{}}},
		{Steps: [][]api.Mult{all}, Kids: []api.Deriv{steps(all), steps(all)}}, {Kids: []api.Deriv{steps(all), steps(all)}}, {Form: lin(0, mono(1, x)), Kids: []api.Deriv{steps(all), steps(all)}},
		{Steps: [][]api.Mult{all}, Split: true}, {Steps: [][]api.Mult{all}, Split: true, Form: lin(0, mono(1, x))}, {Split: true, Kids: []api.Deriv{steps(all)}}, {Split: true, Kids: []api.Deriv{steps(all), steps(all), steps(all)}},
	} {
		if got, e := linear.Refutes(circle(), d); e != api.OK || got {
			t.Errorf("P4.4: case %d: %v, %d", k, got, e)
		}
	}
	// A contradictory constraint is no result of a step.
	expectRefutes(t, []api.Con{zero(lin(1))}, api.Deriv{}, false)
	expectRefutes(t, []api.Con{zero(lin(1)), zero(lin(0, mono(1, x)))}, steps(step(mult(1, 1))), false)
	expectRefutes(t, nil, api.Deriv{}, false)
	expectRefutes(t, nil, steps(step(mult(0, 1))), false)
}

func TestRefutesBySplits(t *testing.T) {
	leaf := func(l ...api.Mult) api.Deriv { return steps(l) }
	// x = 2y and x = 2z - 1, the last as two constraints: y < z and z <= y by the cases of y - z.
	cons := []api.Con{zero(lin(0, mono(1, x), mono(-2, y))), atMost(lin(1, mono(1, x), mono(-2, z))), atMost(lin(-1, mono(-1, x), mono(2, z)))}
	cases := lin(1, mono(1, y), mono(-1, z))
	expectRefutes(t, cons, split(cases, leaf(mult(3, 2), mult(0, 1), mult(2, 1)), leaf(mult(3, 2), mult(0, -1), mult(1, 1))), true)
	expectRefutes(t, cons, split(cases, leaf(mult(3, 2), mult(0, -1), mult(1, 1)), leaf(mult(3, 2), mult(0, 1), mult(2, 1))), false)
	// 1 <= 3x <= 2 by x <= 0 or x >= 1
	third := []api.Con{atMost(lin(-2, mono(3, x))), atMost(lin(1, mono(-3, x)))}
	f := lin(0, mono(1, x))
	first, second := leaf(mult(2, 3), mult(1, 1)), leaf(mult(2, 3), mult(0, 1))
	expectRefutes(t, third, split(f, first, second), true)
	expectRefutes(t, third, split(f, second, first), false)
	expectRefutes(t, third, split(f, first, first), false)
	expectRefutes(t, third, split(f, second, second), false)
	expectRefutes(t, third, split(f, api.Deriv{}, second), false)
	expectRefutes(t, third, split(f, first, api.Deriv{}), false)
	// Other forms of the split: 1 - x <= 0 comes first then.
	expectRefutes(t, third, split(lin(1, mono(-1, x)), second, first), true)
	expectRefutes(t, third, split(lin(1, mono(-1, x)), first, second), false)
	expectRefutes(t, third, split(lin(-1, mono(1, x)), first, second), false)
	expectRefutes(t, third, split(lin(1, mono(1, x)), first, second), false)
	// Steps ahead of the split shift what the kids count; their results are the kids', too.
	ahead := []([]api.Mult){step(mult(0, 1)), step(mult(1, 2))}
	expectRefutes(t, third, split(f, first, second, ahead...), false)
	expectRefutes(t, third, split(f, leaf(mult(4, 3), mult(1, 1)), leaf(mult(4, 3), mult(0, 1)), ahead...), true)
	expectRefutes(t, third, split(f, leaf(mult(4, 1), mult(3, 1)), leaf(mult(4, 1), mult(2, 1)), ahead...), true)
	expectRefutes(t, third, split(f, leaf(mult(4, 1), mult(3, 1)), leaf(mult(4, 1), mult(2, 1)), step(mult(0, 1)), step(mult(0, 0))), false)
	// A result of the first kid's steps is not the second kid's.
	expectRefutes(t, third, split(f, steps(step(mult(2, 3), mult(1, 1)), step(mult(3, 1))), steps(step(mult(3, 1)))), false)
	expectRefutes(t, third, split(f, steps(step(mult(0, 1)), step(mult(2, 3), mult(1, 1))), steps(step(mult(4, 1)))), false)
	expectRefutes(t, third, split(f, steps(step(mult(1, 1)), step(mult(2, 3), mult(1, 1))), steps(step(mult(0, 1)), step(mult(2, 1), mult(3, 1)))), true)
	// A contradiction ahead of a split is not enough, nor is it needed.
	bad := []api.Con{zero(lin(1))}
	expectRefutes(t, bad, split(f, leaf(mult(0, 1)), leaf(mult(0, 1)), step(mult(0, 1))), true)
	expectRefutes(t, bad, split(f, api.Deriv{}, api.Deriv{}, step(mult(0, 1))), false)
	expectRefutes(t, bad, split(f, leaf(mult(0, 1)), api.Deriv{}, step(mult(0, 1))), false)
	// A split of a constant: 1 <= 0, or 0 <= 0.
	expectRefutes(t, third, split(lin(1), leaf(mult(2, 1)), split(f, leaf(mult(3, 3), mult(1, 1)), leaf(mult(3, 3), mult(0, 1)))), true)
	expectRefutes(t, third, split(api.Lin{}, split(f, leaf(mult(3, 3), mult(1, 1)), leaf(mult(3, 3), mult(0, 1))), leaf(mult(2, 1))), true)
}

func TestRefutesOfSplitForms(t *testing.T) {
	one := steps(step(mult(0, 1)))
	bad := []api.Con{zero(lin(1))}
	for _, f := range []api.Lin{{}, lin(5), lin(great), lin(1 - great), lin(0, mono(great, x)), lin(great, mono(-great, x), mono(1, u)), lin(3, mono(2, x))} {
		expectRefutes(t, bad, split(f, one, one), true)
	}
	// Form, or 1 - Form, is not valid.
	for _, f := range []api.Lin{lin(great + 1), lin(-great), lin(-great, mono(1, x)), lin(-1 << 63), lin(0, mono(great+1, x)), lin(0, mono(0, x)), lin(0, mono(1, y), mono(1, x)), lin(0, mono(1, x), mono(1, x)), lin(0, mono(1, num(1))),
		lin(0, mono(1, node(99))), lin(0, mono(1, variable("s", api.SSet))), lin(0, mono(1, call("f", api.SInt, doubled(11, x))))} {
		expectRefutes(t, bad, split(f, one, one), false)
	}
	for _, kids := range [][]api.Deriv{nil, {one}, {one, one, one}} {
		expectRefutes(t, bad, api.Deriv{Split: true, Form: lin(0, mono(1, x)), Kids: kids}, false)
	}
}

// nested lies a number of derivations within each other, of which each but the last is a split.
func nested(deep int) api.Deriv {
	d := steps(step(mult(0, 1)))
	for range deep - 1 {
		d = split(lin(0, mono(1, x)), d, steps(step(mult(0, 1))))
	}
	return d
}

// many are one step a number of times.
func many(n int, s []api.Mult) [][]api.Mult {
	var l [][]api.Mult
	for range n {
		l = append(l, s)
	}
	return l
}

func TestRefutesLimits(t *testing.T) {
	bad := []api.Con{zero(lin(1))}
	one := step(mult(0, 1))
	expectRefutes(t, bad, nested(60), true)
	expectNoRefutes(t, "P4.4: 61 deep", bad, nested(61), api.ErrLimit)
	expectNoRefutes(t, "P4.4: 500 deep", bad, nested(500), api.ErrLimit)
	deep := nested(61)
	deep.Kids[0], deep.Kids[1] = deep.Kids[1], deep.Kids[0]
	expectNoRefutes(t, "P4.4: deep in the second kid", bad, deep, api.ErrLimit)
	expectRefutes(t, bad, steps(many(2000, one)...), true)
	expectNoRefutes(t, "P4.4: 2001 steps", bad, steps(many(2001, one)...), api.ErrLimit)
	f := lin(0, mono(1, x))
	expectRefutes(t, bad, split(f, steps(many(1000, one)...), steps(many(900, one)...), many(99, one)...), true)
	expectNoRefutes(t, "P4.4: 2000 steps and a split", bad, split(f, steps(many(1000, one)...), steps(many(900, one)...), many(100, one)...), api.ErrLimit)
	expectRefutes(t, bad, split(f, split(f, steps(one), steps(one)), steps(many(1900, one)...), many(96, one)...), true)
	expectNoRefutes(t, "P4.4: 1999 steps and two splits", bad, split(f, split(f, steps(one), steps(one)), steps(many(1900, one)...), many(97, one)...), api.ErrLimit)
	expectRefutes(t, bad, api.Deriv{Steps: many(1999, one), Split: true}, false)
	expectNoRefutes(t, "P4.4: 2000 steps and a split without kids", bad, api.Deriv{Steps: many(2000, one), Split: true}, api.ErrLimit)
	// Limits count whatever the derivation is worth, and the shape that it has.
	expectNoRefutes(t, "P4.4", nil, steps(many(2001, nil)...), api.ErrLimit)
	expectNoRefutes(t, "P4.4", circle(), nested(61), api.ErrLimit)
	expectNoRefutes(t, "P4.4", bad, api.Deriv{Kids: []api.Deriv{{}, steps(many(2001, one)...)}}, api.ErrLimit)
	expectNoRefutes(t, "P4.4", bad, api.Deriv{Split: true, Kids: []api.Deriv{{}, {}, steps(many(2000, one)...)}}, api.ErrLimit)
	expectRefutes(t, bad, api.Deriv{Split: true, Kids: []api.Deriv{{}, {}, steps(many(1999, one)...)}}, false)
	expectRefutes(t, bad, api.Deriv{Kids: make([]api.Deriv, 5000)}, false)
	flat := api.Deriv{}
	for range 61 {
		flat = api.Deriv{Kids: []api.Deriv{flat}}
	}
	expectNoRefutes(t, "P4.4", bad, flat, api.ErrLimit)
	// Long steps are no more steps.
	long := make([]api.Mult, 50000)
	for k := range long {
		long[k] = mult(0, 1)
	}
	expectRefutes(t, bad, steps(long), true)
}

// A split is a derivation whose Split is true: kids without it are of another form, and count as nothing.
func TestRefutesCountsTrueSplits(t *testing.T) {
	bad := []api.Con{zero(lin(1))}
	one := step(mult(0, 1))
	all := steps(many(1000, one)...)
	f := lin(0, mono(1, x))
	pair := api.Deriv{Kids: []api.Deriv{{}}}
	var pairs []api.Deriv
	for range 5000 {
		pairs = append(pairs, pair)
	}
	for k, d := range []api.Deriv{
		{Steps: many(2000, one), Kids: []api.Deriv{{}}}, {Steps: many(2000, one), Form: f, Kids: []api.Deriv{pair, pair}}, {Steps: many(1000, one), Kids: []api.Deriv{all}}, {Kids: []api.Deriv{all, pair, all, {}}}, {Kids: pairs},
		{Steps: many(1999, one), Split: true, Form: f, Kids: []api.Deriv{pair, pair}}, {Split: true, Form: f, Kids: []api.Deriv{{Kids: []api.Deriv{all}}, {Steps: many(999, one), Kids: pairs}}},
		split(f, steps(one), api.Deriv{Steps: many(1998, one), Kids: []api.Deriv{{}}}),
	} {
		if got, e := linear.Refutes(bad, d); got || e != api.OK {
			t.Errorf("P4.4: case %d: %v, %d, not false and OK", k, got, e)
		}
	}
	for k, d := range []api.Deriv{
		{Steps: many(2001, one), Kids: []api.Deriv{{}}}, {Steps: many(1001, one), Kids: []api.Deriv{all}}, {Kids: []api.Deriv{all, pair, all, steps(one)}}, {Kids: append(pairs[:5000:5000], all, all, api.Deriv{Split: true})},
		{Steps: many(2000, one), Split: true, Form: f, Kids: []api.Deriv{pair, pair}}, {Split: true, Form: f, Kids: []api.Deriv{{Kids: []api.Deriv{all}}, {Steps: many(1000, one), Kids: pairs}}},
		{Steps: many(1000, one), Kids: []api.Deriv{{Steps: many(1000, one), Split: true}}}, {Kids: []api.Deriv{{Kids: []api.Deriv{{Split: true, Kids: []api.Deriv{all, all}}}}}},
	} {
		if got, e := linear.Refutes(bad, d); got || e != api.ErrLimit {
			t.Errorf("P4.4: too many, case %d: %v, %d, not ErrLimit", k, got, e)
		}
	}
}

// doubling nests derivations, each with two kids that are the same in memory.
func doubling(levels int, d api.Deriv) api.Deriv {
	for range levels {
		d = api.Deriv{Kids: []api.Deriv{d, d}}
	}
	return d
}

// A derivation that shares its parts is small in memory, but not in all: Refutes must not walk through all of it.
func TestRefutesOfSharedParts(t *testing.T) {
	bad := []api.Con{zero(lin(1))}
	one := step(mult(0, 1))
	f := lin(0, mono(1, x))
	d := steps(one)
	for range 55 {
		d = split(f, d, d)
	}
	// What is expected here prints no derivation: there would be no end to it.
	expectNoRefutes(t, "P4.4, R1", bad, d, api.ErrLimit)
	expectNoRefutes(t, "P4.4, R1", bad, doubling(59, api.Deriv{}), api.OK)
	expectNoRefutes(t, "P4.4, R1", bad, doubling(60, api.Deriv{}), api.ErrLimit)
	expectNoRefutes(t, "P4.4, R1", bad, doubling(59, steps(one)), api.ErrLimit)
	expectNoRefutes(t, "P4.4, R1", bad, doubling(59, api.Deriv{Split: true}), api.ErrLimit)
	// Each of what is shared counts, wherever it stands: 1024 steps and 2048; 60 deep and 61.
	expectNoRefutes(t, "P4.4, R1", bad, doubling(10, steps(one)), api.OK)
	expectNoRefutes(t, "P4.4, R1", bad, doubling(11, steps(one)), api.ErrLimit)
	expectNoRefutes(t, "P4.4, R1", bad, doubling(10, doubling(40, api.Deriv{Kids: []api.Deriv{{}, {}}})), api.OK)
	flat := doubling(29, api.Deriv{})
	deep := flat
	for range 30 {
		deep = api.Deriv{Kids: []api.Deriv{flat, deep}}
	}
	expectNoRefutes(t, "P4.4, R1", bad, deep, api.OK)
	expectNoRefutes(t, "P4.4, R1", bad, api.Deriv{Kids: []api.Deriv{flat, deep}}, api.ErrLimit)
	expectNoRefutes(t, "P4.4, R1", bad, api.Deriv{Kids: []api.Deriv{deep, flat}}, api.ErrLimit)
	// One list and what it begins with are two.
	kids := []api.Deriv{{}, {}, steps(many(1500, one)...)}
	expectNoRefutes(t, "P4.4, R1", bad, api.Deriv{Kids: []api.Deriv{{Kids: kids[:2]}, {Kids: kids}, {Kids: kids[:1]}}}, api.OK)
	expectNoRefutes(t, "P4.4, R1", bad, api.Deriv{Kids: []api.Deriv{{Kids: kids[:2]}, {Kids: kids}, {Kids: kids[:2]}, {Kids: kids[1:]}}}, api.ErrLimit)
	// One that lies in itself is deeper than all.
	round := make([]api.Deriv, 2)
	round[0].Kids, round[1].Kids = flat.Kids, round
	expectNoRefutes(t, "P4.4, R1", bad, round[1], api.ErrLimit)
	round[0].Kids = round
	expectNoRefutes(t, "P4.4, R1", bad, round[0], api.ErrLimit)
}

func TestRefutesErrors(t *testing.T) {
	good := steps(step(mult(0, 1)))
	for _, bad := range badCons() {
		for _, d := range []api.Deriv{good, {}, nested(70), steps(nil)} {
			expectNoRefutes(t, "P4.4: ErrForm", append([]api.Con{zero(lin(1))}, bad), d, api.ErrForm)
			expectNoRefutes(t, "P4.4: ErrForm", append([]api.Con{bad}, circle()...), d, api.ErrForm)
		}
	}
	var cons []api.Con
	for range 2000 {
		cons = append(cons, zero(lin(1)))
	}
	expectRefutes(t, cons, good, true)
	expectRefutes(t, cons, steps(step(mult(1999, 1))), true)
	// Results and the cases of splits may be more.
	expectRefutes(t, cons, split(lin(0, mono(1, x)), steps(step(mult(2000, 1), mult(5, 1))), steps(step(mult(2001, 1)), step(mult(2003, 1), mult(1, 1)))), false)
	expectRefutes(t, cons, split(lin(0, mono(1, x)), steps(step(mult(2000, 1))), steps(step(mult(2000, 1)), step(mult(2002, 1))), step(mult(3, 1))), true)
	for _, d := range []api.Deriv{good, {}, nested(70)} {
		expectNoRefutes(t, "P4.4: 2001 constraints", append(cons, zero(lin(0))), d, api.ErrForm)
	}
}

// Room behind the constraints in memory is the caller's, and neither are the arguments changed.
func TestDerivationsKeepTheirArguments(t *testing.T) {
	room := append(circle(), circle()...)
	cons := room[:3]
	f := lin(0, mono(1, x), mono(-1, y))
	all := step(mult(0, 1), mult(1, 1), mult(2, 1))
	d := split(f, steps(all), split(f, steps(all), steps(all)), all, all)
	for range 2 {
		expectRefutes(t, cons, d, true)
		expectRefutes(t, cons, steps(all, all), true)
		for k, want := range append(circle(), circle()...) {
			if !sameCon(room[k], want) {
				t.Errorf("R3: Refutes has changed constraint %d", k)
			}
		}
	}
	fx := call("f", api.SInt, x)
	of := []api.Con{zero(lin(3, mono(2, call("f", api.SInt, x)))), zero(lin(1, mono(1, call("g", api.SInt, x))))}
	got, e := linear.Step(of, step(mult(0, 1), mult(1, 1)))
	alone, e2 := linear.Step(of, step(mult(1, 1)))
	spoilCons(of)
	if e != api.OK || !sameCon(got, zero(lin(4, mono(2, fx), mono(1, call("g", api.SInt, x))))) || e2 != api.OK || !sameCon(alone, zero(lin(1, mono(1, call("g", api.SInt, x))))) {
		t.Errorf("R3: Step shares memory with its arguments: %v, %v", got, alone)
	}
}
