package omega

import (
	"cmp"
	"slices"

	"quantale/api"
)

// maxPairs is the greatest number of rows that the elimination of one variable may make.
const maxPairs = 1 << 14

// The kinds of moves.
const (
	changed = iota // another variable takes x's place: x plus by times y
	solved         // x is the value that makes the row of a number zero
	bounded        // x is within what the rows of some numbers say
)

// move is what takes a variable out of the live rows. The rows of a move are over the variables at that time.
type move struct {
	kind int
	x, y int
	by   int64
	rows []int
}

// eliminate takes all variables out of the live rows, or ends at a contradiction.
func (t *table) eliminate() {
	t.roundAll()
	for !t.over() {
		t.sift()
		if zero, other := t.equality(); zero != none {
			t.solve(zero, other)
			continue
		}
		x := t.choose()
		if x == none {
			return
		}
		t.project(x)
	}
}

// roundAll rounds the rows that are given.
func (t *table) roundAll() {
	for i, at := range t.live {
		if t.over() {
			return
		}
		if t.rows[at].divisor() != 1 {
			t.live[i] = t.derive(api.Mult{Index: at, Coef: 1})
			t.rows[t.live[i]].assumed = t.rows[at].assumed
		}
	}
}

// equality returns the number of a live row that is zero; or that of one and of its opposite, both of which are at most zero; or none.
func (t *table) equality() (zero, other int) {
	t.spend(len(t.live) * t.search.width())
	if len(t.live) > 0 && t.rows[t.live[0]].rel == isZero {
		return t.live[0], none
	}
	for _, at := range t.live {
		// One row of two opposite ones is enough to begin with.
		if leading(t.rows[at].coefs) < 0 {
			continue
		}
		if other := t.oppositeOf(at); other != none {
			return at, other
		}
	}
	return none, none
}

// oppositeOf returns the number of the live row whose form is that of a row times -1, or none. All live rows are at most zero here.
func (t *table) oppositeOf(at int) int {
	coefs := opposite(t.rows[at].coefs)
	first, _ := slices.BinarySearchFunc(t.live, coefs, func(i int, c []int64) int { return slices.Compare(t.rows[i].coefs, c) })
	for _, i := range t.live[first:] {
		if !slices.Equal(t.rows[i].coefs, coefs) {
			break
		}
		if t.rows[i].rest == -t.rows[at].rest {
			return i
		}
	}
	return none
}

// solve takes a variable out of all live rows by means of a row that is zero, or of one and its opposite.
func (t *table) solve(zero, other int) {
	x := t.unit(zero)
	if t.failed {
		return
	}
	sign := t.rows[zero].coefs[x]
	l := slices.DeleteFunc(t.live, func(at int) bool { return at == zero || at == other })
	for i, at := range l {
		if c := t.rows[at].coefs[x]; c != 0 {
			l[i] = t.derive(api.Mult{Index: at, Coef: 1}, multipleOf(zero, other, -c*sign))
			t.rows[l[i]].assumed = t.rows[at].assumed
		}
	}
	t.live = l
	t.moves = append(t.moves, move{kind: solved, x: x, rows: []int{zero}})
}

// multipleOf returns a multiple of a row. If the row has an opposite, only positive multiples of both of them are allowed.
func multipleOf(zero, other int, by int64) api.Mult {
	if by < 0 && other != none {
		return api.Mult{Index: other, Coef: -by}
	}
	return api.Mult{Index: zero, Coef: by}
}

// unit returns a variable that has the coefficient 1 or -1 in a live row. Variables change, as in Euclid's algorithm, until there is one.
func (t *table) unit(at int) int {
	for !t.failed {
		x := t.lightest(at)
		coefs := t.rows[at].coefs
		by := coefs[x]
		if between(by, 1) {
			return x
		}
		for y, c := range coefs {
			if q := c / by; y != x && q != 0 {
				t.change(x, y, q)
			}
		}
	}
	return none
}

// lightest returns the variable that has the coefficient of the least amount in a row, and of several the one that occurs in the fewest live rows.
func (t *table) lightest(at int) int {
	best, least, count := none, int64(0), 0
	for x, c := range t.rows[at].coefs {
		c = max(c, -c)
		if c == 0 || best != none && c > least {
			continue
		}
		if n := t.occurrences(x); best == none || c < least || n < count {
			best, least, count = x, c, n
		}
	}
	return best
}

func (t *table) occurrences(x int) int {
	n := 0
	for _, at := range t.live {
		if t.rows[at].coefs[x] != 0 {
			n++
		}
	}
	return n
}

// change puts x + by*y in x's place in all live rows.
func (t *table) change(x, y int, by int64) {
	t.spend(len(t.live) * productRoom)
	for _, at := range t.live {
		coefs := t.rows[at].coefs
		coefs[y] = t.plus(coefs[y], coefs[x], -by)
	}
	t.moves = append(t.moves, move{kind: changed, x: x, y: y, by: by})
}

// choose returns the variable whose elimination is best, or none if no live row has one: an elimination that loses no integers, then one that makes few rows.
func (t *table) choose() int {
	t.spend(len(t.live) * t.search.width())
	best, least := none, cost{}
	for x := range t.search.atoms {
		c, found := t.cost(x)
		if found && (best == none || c.compare(least) < 0) {
			best, least = x, c
		}
	}
	return best
}

// cost is what the elimination of a variable costs: whether it may lose integers, and how many rows are more than before.
type cost struct{ loss, growth int }

func (c cost) compare(d cost) int {
	return cmp.Or(cmp.Compare(c.loss, d.loss), cmp.Compare(c.growth, d.growth))
}

// cost returns what the elimination of a variable costs, and whether there is anything to eliminate. Assumed rows do not count: with them, the order of variables would depend on what has been assumed.
func (t *table) cost(x int) (cost, bool) {
	lower, upper := 0, 0
	least, most := int64(0), int64(0)
	for _, at := range t.live {
		c := t.rows[at].coefs[x]
		switch {
		case t.rows[at].assumed:
		case c < 0:
			lower++
		case c > 0:
			upper++
		}
		least, most = min(least, c), max(most, c)
	}
	c := cost{growth: lower*upper - lower - upper}
	if least < -1 && most > 1 {
		c.loss = 1
	}
	return c, lower+upper > 0
}

// project takes a variable out of the live rows by all sums of two of them that have no part of it.
func (t *table) project(x int) {
	var lower, upper, rest []int
	m := move{kind: bounded, x: x}
	for _, at := range t.live {
		r := t.rows[at]
		if r.coefs[x] != 0 && !r.assumed {
			m.rows = append(m.rows, at)
		}
		switch {
		case r.coefs[x] == 0:
			rest = append(rest, at)
		case r.twin != none:
			// The twin says more.
		case r.coefs[x] < 0:
			lower = append(lower, at)
		default:
			upper = append(upper, at)
		}
	}
	t.failed = t.failed || len(lower)*len(upper) > maxPairs
	for _, a := range lower {
		for _, b := range upper {
			if t.over() {
				return
			}
			rest = append(rest, t.without(x, a, b))
		}
	}
	t.live = rest
	t.moves = append(t.moves, m)
}

// without adds the least sum of multiples of two rows in which x, whose coefficients have different signs, is no more.
func (t *table) without(x, lower, upper int) int {
	a, b := -t.rows[lower].coefs[x], t.rows[upper].coefs[x]
	g := gcd(a, b)
	return t.derive(api.Mult{Index: lower, Coef: b / g}, api.Mult{Index: upper, Coef: a / g})
}
