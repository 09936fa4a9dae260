package omega

import (
	"cmp"
	"slices"

	"quantale/api"
	"quantale/exact"
	"quantale/logic"
)

// The relations of constraints.
const (
	isZero       = 0
	isAtMostZero = 1
)

const (
	// maxAmount is the greatest amount of a number of a form.
	maxAmount = 1 << 53
	// maxWeight is the greatest amount that the multiples of a step may have in all.
	maxWeight = 1 << 62
	// maxShare is the greatest weight of a row that is not kept.
	maxShare = 1 << 50
)

// row is a constraint over the variables of a table: the sum of the products of its coefficients with them and rest is zero, or at most zero.
type row struct {
	coefs []int64
	rest  int64
	rel   int
	// made has the multiples of earlier rows that the row is the sum of, ahead of rounding; none for a row that is given.
	made []api.Mult
	// kept says that the row is a constraint of its own to a derivation. One that is not has been changed by no rounding, so that what it is made of may stand in its place.
	kept bool
	// weight is at least the sum of the amounts of the multiples of kept rows that the row is made of.
	weight int64
	// assumed says that a solution need not satisfy the row: it narrows the search alone.
	assumed bool
	// twin is the number of an assumed row with the same coefficients that says more, or none.
	twin int
}

// none is no number of a row or variable.
const none = -1

// rowOf returns a constraint as a row over atoms.
func rowOf(c api.Con, atoms []api.Node) row {
	r := row{coefs: make([]int64, len(atoms)), rest: c.Form.Const, rel: c.Rel}
	for _, m := range c.Form.Monos {
		at, _ := slices.BinarySearchFunc(atoms, m.Atom, logic.Compare)
		r.coefs[at] = m.Coef
	}
	return r
}

// form returns the form of a row over atoms.
func (r row) form(atoms []api.Node) api.Lin {
	f := api.Lin{Const: r.rest}
	for i, c := range r.coefs {
		if c != 0 {
			f.Monos = append(f.Monos, api.Mono{Coef: c, Atom: copyNode(atoms[i])})
		}
	}
	return f
}

// opposite returns coefficients times -1.
func opposite(coefs []int64) []int64 {
	l := make([]int64, len(coefs))
	for i, c := range coefs {
		l[i] = -c
	}
	return l
}

// turn multiplies a row that is zero by -1.
func (r *row) turn() {
	r.coefs, r.rest = opposite(r.coefs), -r.rest
	r.made = slices.Clone(r.made)
	for i := range r.made {
		// A step that makes a kept row is turned when it is rounded.
		if !r.kept {
			r.made[i].Coef = -r.made[i].Coef
		}
	}
}

// leading returns the first coefficient that is not 0, if there is one.
func leading(coefs []int64) int64 {
	for _, c := range coefs {
		if c != 0 {
			return c
		}
	}
	return 0
}

// constant reports whether a row is about no variable.
func (r row) constant() bool {
	return r.divisor() == 0
}

// contradictory reports whether no values satisfy a row, whatever they are.
func (r row) contradictory() bool {
	return r.constant() && !satisfied(r.rest, r.rel)
}

// share is the weight that a row has in those that are made of it.
func (r row) share() int64 {
	if r.kept {
		return 1
	}
	return r.weight
}

// divisor returns the greatest common divisor of the coefficients of a row.
func (r row) divisor() int64 {
	var g int64
	for _, c := range r.coefs {
		g = gcd(g, c)
		if g == 1 {
			return g
		}
	}
	return g
}

// gcd returns the greatest common divisor of two numbers.
func gcd(a, b int64) int64 {
	for b != 0 {
		a, b = b, a%b
	}
	return max(a, -a)
}

// divideBy divides a row by a divisor of its coefficients, as rounding does.
func (r *row) divideBy(g int64) {
	if r.rel == isZero && r.rest%g != 0 {
		clear(r.coefs)
		r.rest = 1
		return
	}
	for i := range r.coefs {
		r.coefs[i] /= g
	}
	r.rest = -floor(-r.rest, g)
}

// floor returns the greatest integer that is at most a/b, for b > 0.
func floor(a, b int64) int64 {
	q := a / b
	if a%b < 0 {
		q--
	}
	return q
}

// valueOf returns the sum of the products of a row's coefficients with values, and its rest; false if it is beyond maxSum.
func (r row) valueOf(values []int64) (int64, bool) {
	sum := exact.Product(r.rest, 1)
	for i, c := range r.coefs {
		if c != 0 {
			sum = sum.Plus(exact.Product(c, values[i]))
		}
	}
	return sum.Within(maxSum)
}

// inOrder orders rows by their relation and coefficients. Among those that have the same ones, rows that are not assumed come first, and of these those that say most.
func inOrder(a, b row) int {
	return cmp.Or(cmp.Compare(a.rel, b.rel), slices.Compare(a.coefs, b.coefs), compareBools(a.assumed, b.assumed), cmp.Compare(b.rest, a.rest))
}

// compareBools puts false first.
func compareBools(a, b bool) int {
	switch {
	case a == b:
		return 0
	case b:
		return -1
	}
	return 1
}
