package omega

import (
	"math"
	"slices"

	"quantale/exact"
)

// gap says that no integer is between the bounds of two rows for a variable: at least most + 1 by the lower one, at most most by the upper one.
type gap struct {
	x            int
	lower, upper int
	most         int64
	// coefs are those of the variable, over the atoms.
	coefs []int64
}

// sample returns values of the atoms that satisfy all rows that are not assumed. It undoes the moves, the last one first, and returns the gap of the first variable that has no value.
func (t *table) sample() ([]int64, *gap) {
	values := make([]int64, len(t.search.atoms))
	for i, m := range slices.Backward(t.moves) {
		switch m.kind {
		case changed:
			values[m.x] = t.within(exact.Product(values[m.x], 1).Plus(exact.Product(values[m.y], -m.by)), maxValue)
		case solved:
			values[m.x] = t.zero(m, values)
		case bounded:
			lower, upper := t.bounds(m, values)
			if lower.value > upper.value {
				return nil, &gap{m.x, lower.row, upper.row, upper.value, t.overAtoms(unit(len(values), m.x), t.moves[:i])}
			}
			values[m.x] = min(max(lower.value, 0), upper.value)
		}
		t.failed = t.failed || !between(values[m.x], maxValue)
	}
	return values, nil
}

// unit returns the coefficients of a variable alone.
func unit(count, x int) []int64 {
	l := make([]int64, count)
	l[x] = 1
	return l
}

// zero returns the value of x that makes the row of a move zero.
func (t *table) zero(m move, values []int64) int64 {
	r := t.rows[m.rows[0]]
	return -r.coefs[m.x] * t.valueOf(r, values)
}

// valueOf returns the value of a row's form, where variables that have not been given a value are 0.
func (t *table) valueOf(r row, values []int64) int64 {
	v, ok := r.valueOf(values)
	t.failed = t.failed || !ok
	return v
}

// bound is a bound for a variable, and the number of the row that it is from.
type bound struct {
	row   int
	value int64
}

// bounds returns the greatest lower and the least upper bound for the variable of a move, where those that come later have values.
func (t *table) bounds(m move, values []int64) (lower, upper bound) {
	lower, upper = bound{none, math.MinInt64}, bound{none, math.MaxInt64}
	for _, at := range m.rows {
		c := t.rows[at].coefs[m.x]
		v := t.valueOf(t.rows[at], values)
		if c < 0 {
			if b := -floor(-v, -c); b > lower.value {
				lower = bound{at, b}
			}
		} else if b := floor(-v, c); b < upper.value {
			upper = bound{at, b}
		}
	}
	return lower, upper
}
