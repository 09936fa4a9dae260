package omega

import (
	"slices"

	"quantale/api"
	"quantale/exact"
)

// table has the rows of one derivation: those that are given, and those that are made of earlier ones. The rows that still matter are live; they are over the same variables, which are the atoms at first and change with the moves.
type table struct {
	search *search
	given  int
	rows   []row
	live   []int
	moves  []move
	// wrong is the number of a contradictory row, or none.
	wrong int
	// failed says that a number has become too great, or that there is no room left. Rows may be wrong then.
	failed bool
}

// newTable returns a table with rows that are given, which it does not change.
func newTable(s *search, given []row) *table {
	t := &table{search: s, given: len(given), wrong: none}
	t.spend(len(given) * s.width())
	for i, r := range given {
		t.rows = append(t.rows, row{coefs: slices.Clone(r.coefs), rest: r.rest, rel: r.rel, kept: true, weight: 1, assumed: r.assumed, twin: none})
		t.live = append(t.live, i)
	}
	return t
}

// spend takes room for looking at so many numbers.
func (t *table) spend(numbers int) {
	t.search.room -= numbers
	t.failed = t.failed || t.search.room < 0
}

// over reports whether there is nothing more to be done.
func (t *table) over() bool {
	return t.failed || t.wrong != none
}

// within returns a number as an int64; the table fails if its amount is greater than most.
func (t *table) within(n exact.Int, most int64) int64 {
	v, ok := n.Within(most)
	t.failed = t.failed || !ok
	return v
}

// plus returns a + by*b as a number of a row.
func (t *table) plus(a, b, by int64) int64 {
	return t.within(exact.Product(a, 1).Plus(exact.Product(b, by)), maxAmount)
}

// derive adds the rounded sum of multiples of rows, and returns its number.
func (t *table) derive(made ...api.Mult) int {
	r := t.sum(made)
	t.round(&r)
	t.rows = append(t.rows, r)
	at := len(t.rows) - 1
	if r.contradictory() {
		t.wrong = at
	}
	return at
}

// sum returns the sum of multiples of rows as it is ahead of rounding.
func (t *table) sum(made []api.Mult) row {
	t.spend(len(made) * t.search.width() * productRoom)
	r := row{coefs: make([]int64, len(t.search.atoms)), made: made, twin: none}
	var rest, weight exact.Int
	for _, m := range made {
		part := t.rows[m.Index]
		r.rel = max(r.rel, part.rel)
		rest = rest.Plus(exact.Product(part.rest, m.Coef))
		weight = weight.Plus(exact.Product(part.share(), max(m.Coef, -m.Coef)))
	}
	for i := range r.coefs {
		var c exact.Int
		for _, m := range made {
			c = c.Plus(exact.Product(t.rows[m.Index].coefs[i], m.Coef))
		}
		r.coefs[i] = t.within(c, maxAmount)
	}
	r.rest = t.within(rest, maxAmount)
	r.weight = t.within(weight, maxWeight)
	return r
}

// round rounds a row. It is kept if that changes it, or if it is made of too much.
func (t *table) round(r *row) {
	g := r.divisor()
	r.kept = g != 1 || r.weight > maxShare
	if g > 1 {
		r.divideBy(g)
	}
	// Rounding looks at the sign of the first coefficient over the atoms.
	if r.rel == isZero && leading(t.overAtoms(r.coefs, t.moves)) < 0 {
		r.turn()
	}
}

// overAtoms returns the coefficients over the atoms of a form over the variables behind some moves.
func (t *table) overAtoms(coefs []int64, moves []move) []int64 {
	t.spend(len(moves) * productRoom)
	l := slices.Clone(coefs)
	for _, m := range slices.Backward(moves) {
		if m.kind == changed {
			l[m.y] = t.plus(l[m.y], l[m.x], m.by)
		}
	}
	return l
}

// sift leaves the live rows that matter: none that is about no variable, and of those with the same coefficients the one that says most, with its twin. They are in order then.
func (t *table) sift() {
	t.spend(len(t.live) * t.search.width())
	l := slices.DeleteFunc(t.live, func(at int) bool { return t.rows[at].constant() })
	slices.SortStableFunc(l, func(i, j int) int { return inOrder(t.rows[i], t.rows[j]) })
	n := 0
	for _, at := range l {
		if n > 0 && t.covers(l[n-1], at) {
			continue
		}
		l[n] = at
		n++
	}
	t.live = l[:n]
}

// covers reports whether a row makes the next one in order needless. If both are needed, the next one is its twin.
func (t *table) covers(at, next int) bool {
	r, s := &t.rows[at], &t.rows[next]
	if r.rel == isZero || !slices.Equal(r.coefs, s.coefs) {
		return false
	}
	if r.assumed || !s.assumed || s.rest <= r.rest {
		return true
	}
	r.twin = next
	return false
}
