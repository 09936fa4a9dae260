package omega_test

import (
	"testing"

	"quantale/api"
	"quantale/omega"
)

// source makes constraints by a fixed sequence of numbers.
type source struct{ state uint64 }

func (r *source) below(n int64) int64 {
	r.state = r.state*6364136223846793005 + 1442695040888963407
	return int64(r.state>>33) % n
}

// amount is a number from -n to n.
func (r *source) amount(n int64) int64 { return r.below(2*n+1) - n }

// kind says which constraints are made.
type kind struct {
	name        string
	cons, atoms int
	// monos, coef and rest are bounds for forms; alone is the bound of the coefficient of a monomial that stands alone.
	monos             int
	coef, rest, alone int64
	// equal is how often a constraint says that a form is not zero.
	equal int64
	// near is how near the constraints are to a rational point with a denominator, if it is not 0.
	near, by int64
}

// plainKinds and smallKinds are such that Solve decides them.
var plainKinds = []kind{
	{"plain", 24, 8, 2, 1, 30, 100, 9, 0, 0},
	{"great plain", 24, 8, 2, 1, 1000000, 1, 30, 0, 0},
	{"halves", 24, 8, 2, 1, 40, 1, 40, 2, 2},
	{"tight", 24, 8, 2, 1, 1000, 100, 25, 2, 1},
	{"few plain", 10, 4, 2, 1, 100000, 100, 9, 3, 2},
}

var smallKinds = []kind{
	{"small", 8, 2, 2, 4, 1000, 4, 30, 0, 0},
	{"near", 8, 2, 2, 4, 20, 4, 30, 0, 0},
	{"thin", 8, 2, 2, 4, 100, 4, 99, 2, 7},
	{"thin and long", 5, 2, 2, 4, 100, 4, 99, 1, 12},
	{"triangles", 3, 2, 2, 4, 60, 4, 99, 6, 12},
	{"wide", 6, 2, 2, 4, 60, 4, 60, 8, 24},
}

var otherKinds = []kind{
	{"three", 8, 3, 3, 6, 50, 6, 40, 6, 5},
	{"four", 10, 4, 4, 5, 50, 6, 40, 6, 5},
	{"sparse", 14, 8, 3, 4, 50, 6, 40, 6, 5},
	{"equal", 8, 6, 4, 9, 50, 9, 2, 3, 1},
	{"great", 5, 2, 2, 1000, 1000, 9, 40, 900, 5},
	{"greatest", 5, 3, 3, great, great, great, 5, 0, 0},
	{"many", 60, 30, 2, 1, 200, 1, 40, 0, 0},
}

// form is a form over some of the first letters.
func (r *source) form(k kind, atoms []api.Node) api.Lin {
	used := map[int64]bool{}
	for range 1 + r.below(int64(k.monos)) {
		used[r.below(int64(k.atoms))] = true
	}
	bound := k.coef
	if len(used) == 1 {
		bound = k.alone
	}
	f := lin(r.amount(k.rest))
	for i, a := range atoms {
		if c := r.amount(bound); used[int64(i)] && c != 0 {
			f.Monos = append(f.Monos, mono(c, a))
		}
	}
	return f
}

// make returns constraints of a kind.
func (r *source) make(k kind) []api.Con {
	atoms := letters(k.atoms)
	point := make([]int64, k.atoms)
	for i := range point {
		point[i] = r.amount(k.rest/2 + 1)
	}
	var l []api.Con
	for range 1 + r.below(int64(k.cons)) {
		f := r.form(k, atoms)
		if k.near > 0 {
			f.Const = 0
			v := at(f, atoms, point)
			f.Const = -v/k.by - r.below(k.near+1) + r.below(2)
		}
		if r.below(k.equal) == 0 {
			l = append(l, zero(f))
		} else {
			l = append(l, atMost(f))
		}
	}
	return l
}

func TestSolveDecides(t *testing.T) {
	r := &source{state: 1}
	for _, k := range append(plainKinds[:len(plainKinds):len(plainKinds)], smallKinds...) {
		var a answers
		for range 1500 {
			cons := r.make(k)
			if omega.Plain(cons) || omega.Small(cons) {
				a.ask(t, cons)
			}
		}
		if a.sat < 50 || a.unsat < 20 || a.budget > 0 {
			t.Errorf("P5.2: %s: too few of a kind: %+v", k.name, a)
		}
	}
}

func TestSolveOthers(t *testing.T) {
	r := &source{state: 2}
	for _, k := range otherKinds {
		var a answers
		for range 300 {
			a.ask(t, r.make(k))
		}
		if a.sat < 10 || a.unsat < 10 || a.budget > 200 {
			t.Errorf("P5.2: %s: too few of a kind: %+v", k.name, a)
		}
	}
}

func TestAddingLaws(t *testing.T) {
	r := &source{state: 3}
	seen := 0
	for range 1000 {
		k := otherKinds[r.below(4)]
		cons := r.make(k)
		more := with(cons, r.make(k)...)
		var a answers
		_, _, before, e := a.ask(t, cons)
		atoms, nums, after, late := a.ask(t, more)
		if e != api.OK || late != api.OK {
			continue
		}
		if after && !before {
			t.Fatalf("P5.4: %v has a solution, %v has none", more, cons)
		}
		if before && !after {
			seen++
		}
		if ok, e := omega.Holds(cons, atoms, nums); after && (!ok || e != api.OK) {
			t.Fatalf("P5.4: a solution of %v is none of %v", more, cons)
		}
	}
	if seen < 50 {
		t.Errorf("too few: %d", seen)
	}
}

// between asks whether constraints have a solution for which f is at most most, and at least least.
func (a *answers) between(t *testing.T, cons []api.Con, f api.Lin, least, most int64) bool {
	t.Helper()
	_, _, sat, e := a.ask(t, with(cons, atMost(shifted(t, f, 1, -most)), atMost(shifted(t, f, -1, least))))
	if e != api.OK {
		t.Fatalf("P5.2: no answer for %v from %d to %d", f, least, most)
	}
	return sat
}

// far is beyond what the forms of the kinds below reach, unless they are unbounded.
const far = 100000000

func TestBoundsLaws(t *testing.T) {
	r := &source{state: 4}
	kinds := append(plainKinds[:len(plainKinds):len(plainKinds)], smallKinds...)
	seen := [8]int{}
	for n := range 2200 {
		k := kinds[n%len(kinds)]
		cons := r.make(k)
		f := r.form(k, letters(k.atoms))
		both := with(cons, atMost(f), atMost(shifted(t, f, -1, 0)))
		if !omega.Plain(both) && !omega.Small(both) {
			continue
		}
		least, most, kind, e := omega.Bounds(cons, f)
		if e != api.OK {
			t.Fatalf("P5.3: error %d for %v, %v", e, cons, f)
		}
		seen[kind]++
		var a answers
		atoms, nums, sat, _ := a.ask(t, cons)
		if sat != (kind != 0) || !sat && (least != 0 || most != 0) {
			t.Fatalf("P5.3: kind %d of %v, %v", kind, cons, f)
		}
		if !sat {
			continue
		}
		v := at(f, atoms, nums)
		if kind&2 == 0 && (v < least || !a.between(t, cons, f, least, least) || a.between(t, cons, f, -3*far, least-1)) {
			t.Fatalf("P5.3: %d is not the least value of %v for %v", least, f, cons)
		}
		if kind&4 == 0 && (v > most || !a.between(t, cons, f, most, most) || a.between(t, cons, f, most+1, 3*far)) {
			t.Fatalf("P5.3: %d is not the greatest value of %v for %v", most, f, cons)
		}
		if kind&2 != 0 && (least != 0 || !a.between(t, cons, f, -3*far, -2*far)) {
			t.Fatalf("P5.3: %v has a least value for %v", f, cons)
		}
		if kind&4 != 0 && (most != 0 || !a.between(t, cons, f, 2*far, 3*far)) {
			t.Fatalf("P5.3: %v has a greatest value for %v", f, cons)
		}
	}
	for _, kind := range []int{0, 1, 3, 5, 7} {
		if seen[kind] < 50 {
			t.Errorf("too few of kind %d: %v", kind, seen)
		}
	}
}

// TestPoints compares with all points of a box.
func TestPoints(t *testing.T) {
	r := &source{state: 5}
	box := list(atMost(over(-4, 1)), atMost(over(-4, -1)), atMost(over(-4, 0, 1)), atMost(over(-4, 0, -1)), atMost(over(-3, 0, 0, 1)), atMost(over(-3, 0, 0, -1)))
	seen := [2]int{}
	for range 2000 {
		var cons []api.Con
		for range 1 + r.below(5) {
			c := api.Con{Form: over(r.amount(15), r.amount(6), r.amount(6), r.amount(3)), Rel: int(min(r.below(6), 1))}
			cons = append(cons, c)
		}
		cons = append(cons, box...)
		f := over(r.amount(9), r.amount(7), r.amount(7), r.amount(7))
		some, least, most := points(cons, f)
		var a answers
		_, _, sat, e := a.ask(t, cons)
		if sat != some || e != api.OK {
			t.Fatalf("P5.2: %v, %d for %v", sat, e, cons)
		}
		low, high, kind, e := omega.Bounds(cons, f)
		if e != api.OK || kind == 1 != some || low != least || high != most {
			t.Fatalf("P5.3: %d, %d, %d, %d for %v, %v, not %d, %d", low, high, kind, e, cons, f, least, most)
		}
		if some {
			seen[1]++
		} else {
			seen[0]++
		}
	}
	if min(seen[0], seen[1]) < 200 {
		t.Errorf("too few of a kind: %v", seen)
	}
}

// points returns whether a point of the box satisfies constraints, and the least and the greatest value of a form at those that do.
func points(cons []api.Con, f api.Lin) (some bool, least, most int64) {
	atoms := []api.Node{x, y, z}
	for i := range int64(9 * 9 * 7) {
		p := []int64{i%9 - 4, i/9%9 - 4, i/81 - 3}
		if !holds(cons, atoms, p) {
			continue
		}
		v := at(f, atoms, p)
		if !some {
			some, least, most = true, v, v
		}
		least, most = min(least, v), max(most, v)
	}
	return some, least, most
}
