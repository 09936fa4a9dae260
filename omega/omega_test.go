package omega_test

import (
	"testing"

	"quantale/api"
	"quantale/linear"
	"quantale/omega"
)

func TestAtoms(t *testing.T) {
	u, f := variable("u", api.SObj), call("f", api.SInt, x)
	cons := list(atMost(lin(3, mono(1, y), mono(-2, f))), zero(lin(0, mono(1, x), mono(5, u))), atMost(lin(7)), atMost(over(1, 2, 3)))
	if got := omega.Atoms(cons); !sameNodes(got, []api.Node{x, y, u, f}) {
		t.Errorf("P5.1: %v", got)
	}
	if got := omega.Atoms(nil); len(got) != 0 {
		t.Errorf("P5.1: %v", got)
	}
	// Of constraints that are not valid, too; what is no atom is none.
	wrong := list(api.Con{Form: lin(1, mono(0, y), mono(great+1, x), mono(1, node(api.Int)), mono(1, node(api.Add, x, z)), mono(1, doubled(80, x)), mono(1, variable("s", api.SSet)), mono(2, y)), Rel: 7})
	if got := omega.Atoms(wrong); !sameNodes(got, []api.Node{x, y}) {
		t.Errorf("P5.1: %v", got)
	}
}

func TestAtomsAreNew(t *testing.T) {
	f := call("f", api.SInt, call("g", api.SInt, x))
	cons := list(atMost(lin(0, mono(1, f))), atMost(lin(1, mono(1, f))))
	got := omega.Atoms(cons)
	spoilNode(got[0])
	if !sameNodes(omega.Atoms(cons), []api.Node{call("f", api.SInt, call("g", api.SInt, x))}) {
		t.Error("R3: Atoms shares memory")
	}
}

func TestHolds(t *testing.T) {
	two := []api.Node{x, y}
	for i, c := range []struct {
		cons  []api.Con
		atoms []api.Node
		nums  []int64
		want  bool
		e     api.Errno
	}{
		{list(), nil, nil, true, api.OK},
		{list(atMost(over(-5, 2, 1))), two, []int64{1, 3}, true, api.OK},
		{list(atMost(over(-5, 2, 1))), two, []int64{1, 4}, false, api.OK},
		{list(atMost(over(-5, 2, 1))), two, []int64{0, -9}, true, api.OK},
		{list(zero(over(-5, 2, 1))), two, []int64{1, 3}, true, api.OK},
		{list(zero(over(-5, 2, 1))), two, []int64{1, 2}, false, api.OK},
		{list(zero(over(-5, 2, 1))), two, []int64{1, 4}, false, api.OK},
		{list(zero(over(-5, 2, 1)), atMost(over(0, 0, 1))), two, []int64{1, 3}, false, api.OK},
		{list(atMost(lin(1))), nil, nil, false, api.OK},
		{list(zero(lin(-1))), nil, nil, false, api.OK},
		{list(atMost(lin(-1)), zero(lin(0))), nil, nil, true, api.OK},
		// An atom that is not listed is 0; one that does not occur does not matter.
		{list(zero(over(-3, 0, 1))), []api.Node{y}, []int64{3}, true, api.OK},
		{list(zero(over(-3, 1, 1))), []api.Node{y}, []int64{3}, true, api.OK},
		{list(zero(over(-3, 1, 1))), []api.Node{x, z}, []int64{3, 8}, true, api.OK},
		{list(zero(over(-3, 1))), nil, nil, false, api.OK},
		// Errors.
		{list(atMost(over(0, 1)), api.Con{Form: over(0, 1), Rel: 2}), []api.Node{x}, []int64{0}, false, api.ErrForm},
		{list(api.Con{Form: over(0, 1), Rel: -1}), []api.Node{x}, []int64{0}, false, api.ErrForm},
		{list(atMost(lin(0, mono(1, y), mono(1, x)))), two, []int64{0, 0}, false, api.ErrForm},
		{list(atMost(lin(great + 1))), nil, nil, false, api.ErrForm},
		{list(), []api.Node{y, x}, []int64{0, 0}, false, api.ErrForm},
		{list(), []api.Node{x, x}, []int64{0, 0}, false, api.ErrForm},
		{list(), []api.Node{x, node(api.Add, x, y)}, []int64{0, 0}, false, api.ErrForm},
		{list(), []api.Node{variable("p", api.SBool)}, []int64{0}, false, api.ErrForm},
		{list(), []api.Node{doubled(80, x)}, []int64{0}, false, api.ErrForm},
		{list(), two, []int64{0}, false, api.ErrForm},
		{list(), []api.Node{x}, []int64{0, 0}, false, api.ErrForm},
		{list(), nil, []int64{0}, false, api.ErrForm},
		{list(), two, []int64{1 << 60, -1 << 60}, true, api.OK},
		{list(), two, []int64{0, 1<<60 + 1}, false, api.ErrForm},
		{list(), two, []int64{-1<<60 - 1, 0}, false, api.ErrForm},
		{list(), two, []int64{-1 << 63, 0}, false, api.ErrForm},
		// A sum may be 2^62 and no more.
		{list(atMost(over(0, 4))), two, []int64{-1 << 60, 0}, true, api.OK},
		{list(atMost(over(0, 4))), two, []int64{1 << 60, 0}, false, api.OK},
		{list(atMost(over(1, 4))), two, []int64{1 << 60, 0}, false, api.ErrLimit},
		{list(atMost(over(-1, 4))), two, []int64{-1 << 60, 0}, false, api.ErrLimit},
		{list(zero(over(1, great))), two, []int64{1 << 60, 0}, false, api.ErrLimit},
		{list(zero(over(0, great, -great))), two, []int64{1 << 60, 1 << 60}, true, api.OK},
		{list(zero(over(0, great, great))), two, []int64{1 << 60, -1 << 60}, true, api.OK},
		// All sums are looked at, and the form of all ahead of them.
		{list(atMost(lin(1)), atMost(over(1, 4))), two, []int64{1 << 60, 0}, false, api.ErrLimit},
		{list(atMost(over(1, 4)), atMost(lin(1))), two, []int64{1 << 60, 0}, false, api.ErrLimit},
		{list(atMost(over(1, 4)), atMost(lin(great+1))), two, []int64{1 << 60, 0}, false, api.ErrForm},
	} {
		if got, e := omega.Holds(c.cons, c.atoms, c.nums); got != c.want || e != c.e {
			t.Errorf("P5.1: case %d: %v, %d", i, got, e)
		}
	}
}

func TestHoldsSumsAreExact(t *testing.T) {
	// 2^15 times 2^113 is 2^128, of which two words see nothing.
	atoms := letters(1 << 14)
	f, nums := lin(0), make([]int64, len(atoms))
	for i, a := range atoms {
		f.Monos = append(f.Monos, mono(great, a))
		nums[i] = 1 << 60
	}
	for _, n := range []int{1 << 14, 1 << 13, 1 << 11, 1 << 10} {
		if ok, e := omega.Holds(list(zero(lin(0, f.Monos[:n]...))), atoms, nums); ok || e != api.ErrLimit {
			t.Errorf("P5.1: %d monomials: %v, %d", n, ok, e)
		}
	}
	for i := range nums {
		nums[i] *= int64(1 - 2*(i%2))
	}
	if ok, e := omega.Holds(list(zero(f)), atoms, nums); !ok || e != api.OK {
		t.Errorf("P5.1: %v, %d", ok, e)
	}
}

func TestPlain(t *testing.T) {
	var wide, long []api.Con
	for i, a := range letters(9) {
		wide = append(wide, atMost(lin(int64(i), mono(1, a))))
	}
	for i := range int64(25) {
		long = append(long, atMost(over(i, 1, 1)))
	}
	for i, c := range []struct {
		cons []api.Con
		want bool
	}{
		{list(), true}, {list(zero(lin(5)), atMost(lin(-3))), true},
		{wide[:8], true}, {wide, false}, {long[:24], true}, {long, false},
		{list(atMost(over(1000000, 1, -1)), zero(over(-1000000, -1, 1))), true},
		{list(atMost(over(1000001, 1, -1))), false}, {list(atMost(over(-1000001, 1, -1))), false}, {list(zero(lin(1000001))), false},
		{list(atMost(over(0, 100)), zero(over(0, 0, -100))), true},
		{list(atMost(over(0, 101))), false}, {list(atMost(over(0, -101))), false},
		{list(atMost(over(0, 2, 1))), false}, {list(atMost(over(0, 1, -2))), false}, {list(atMost(over(0, 1, 1, 1))), false},
		{list(atMost(over(0, 1)), atMost(over(0, 2, 1))), false},
		{list(api.Con{Form: over(0, 1), Rel: 2}), false}, {list(atMost(lin(0, mono(1, y), mono(1, x)))), false},
		{list(atMost(lin(0, mono(0, x)))), false}, {list(atMost(lin(0, mono(1, node(api.Int))))), false},
		{list(atMost(lin(0, mono(1, doubled(80, x))))), false},
	} {
		if got := omega.Plain(c.cons); got != c.want {
			t.Errorf("P5.1: case %d: Plain is %v", i, got)
		}
	}
}

func TestSmall(t *testing.T) {
	var long []api.Con
	for i := range int64(9) {
		long = append(long, atMost(over(i, 1, 3)))
	}
	for i, c := range []struct {
		cons []api.Con
		want bool
	}{
		{list(), true}, {list(zero(lin(5)), atMost(lin(-3))), true},
		{long[:8], true}, {long, false},
		{list(atMost(over(0, 1)), atMost(over(0, 0, 1))), true}, {list(atMost(over(0, 1)), atMost(over(0, 0, 1, 1))), false},
		{list(atMost(over(0, 1, 1, 1))), false},
		{list(atMost(over(0, 4, -4)), zero(over(0, -4, 4))), true},
		{list(atMost(over(0, 5))), false}, {list(atMost(over(0, 1, -5))), false},
		{list(atMost(over(1000, 4)), atMost(over(-1000, 4))), true},
		{list(atMost(over(1001, 4))), false}, {list(atMost(over(-1001, 4))), false}, {list(zero(lin(1001))), false},
		{list(api.Con{Form: over(0, 1), Rel: 2}), false}, {list(atMost(lin(0, mono(1, y), mono(1, x)))), false},
		{list(atMost(lin(0, mono(0, x)))), false}, {list(atMost(lin(0, mono(1, node(api.Int))))), false},
	} {
		if got := omega.Small(c.cons); got != c.want {
			t.Errorf("P5.1: case %d: Small is %v", i, got)
		}
	}
}

func TestManyInvalid(t *testing.T) {
	// Long lists and trees that share their parts end soon.
	cons := make([]api.Con, 100000)
	for i := range cons {
		cons[i] = atMost(over(int64(i), 1))
	}
	if omega.Plain(cons) || omega.Small(cons) || len(omega.Atoms(cons)) != 1 {
		t.Error("P5.1: many constraints")
	}
	if ok, e := omega.Holds(cons, []api.Node{x}, []int64{-99999}); !ok || e != api.OK {
		t.Errorf("P5.1: %v, %d", ok, e)
	}
	shared := list(atMost(lin(0, mono(1, doubled(90, x)))))
	if _, _, d, sat, e := omega.Solve(shared); e != api.ErrForm || sat || !zeroDeriv(d) {
		t.Errorf("P5.2: %v, %d", sat, e)
	}
	if linear.Valid(shared[0].Form) {
		t.Error("P4: Valid")
	}
}
