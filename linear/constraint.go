package linear

import (
	"quantale/api"
	"quantale/logic"
)

// The relations of constraints.
const (
	isZero       = 0
	isAtMostZero = 1
)

func valid(c api.Con) bool {
	return (c.Rel == isZero || c.Rel == isAtMostZero) && Valid(c.Form)
}

func allValid(cons []api.Con) bool {
	for _, c := range cons {
		if !valid(c) {
			return false
		}
	}
	return true
}

// Round returns the rounded constraint, which has the same integer solutions.
func Round(c api.Con) (api.Con, api.Errno) {
	if !valid(c) {
		return api.Con{}, api.ErrForm
	}
	c = round(c)
	c.Form = copyForm(c.Form)
	return c, api.OK
}

func round(c api.Con) api.Con {
	if len(c.Form.Monos) == 0 {
		return c
	}
	g := divisor(c.Form.Monos)
	switch {
	case c.Rel == isAtMostZero:
		c.Form = divided(c.Form, g)
	case c.Form.Const%g != 0:
		c.Form = api.Lin{Const: 1}
	case c.Form.Monos[0].Coef < 0:
		c.Form = divided(c.Form, -g)
	default:
		c.Form = divided(c.Form, g)
	}
	return c
}

// divisor returns the greatest common divisor of the coefficients of monomials.
func divisor(l []api.Mono) int64 {
	var g int64
	for _, m := range l {
		for n := m.Coef; n != 0; {
			g, n = n, g%n
		}
	}
	return max(g, -g)
}

// divided returns a form divided by a divisor of its coefficients; the constant is rounded up.
func divided(f api.Lin, by int64) api.Lin {
	d := api.Lin{Monos: make([]api.Mono, len(f.Monos)), Const: f.Const / by}
	// A quotient that is negative is rounded up by Go's division itself.
	if f.Const%by > 0 {
		d.Const++
	}
	for i, m := range f.Monos {
		d.Monos[i] = api.Mono{Coef: m.Coef / by, Atom: m.Atom}
	}
	return d
}

// Contradictory reports whether a constraint is one that no integers satisfy, whatever the atoms are.
func Contradictory(c api.Con) bool {
	return valid(c) && contradictory(c)
}

func contradictory(c api.Con) bool {
	if len(c.Form.Monos) > 0 {
		return false
	}
	return c.Form.Const > 0 || c.Form.Const < 0 && c.Rel == isZero
}

// FromLiteral returns the constraints that a formula says if it is true or false, and whether it says any.
func FromLiteral(n api.Node, truth bool) (cons []api.Con, ok bool, e api.Errno) {
	if e := logic.Check(n, api.SBool); e != api.OK {
		return nil, false, e
	}
	if !says(n, truth) {
		return nil, false, api.OK
	}
	f, ok := literalForm(n, truth)
	if !ok {
		return nil, false, api.ErrLimit
	}
	c := api.Con{Form: copyForm(f), Rel: isAtMostZero}
	if n.Op == api.Eq {
		c.Rel = isZero
	}
	return []api.Con{c}, true, api.OK
}

// says reports whether a formula says a constraint if it is true or false.
func says(n api.Node, truth bool) bool {
	switch n.Op {
	case api.Eq:
		return truth && formed(n.Kids[0])
	case api.Le, api.Lt:
		return true
	}
	return false
}

// literalForm returns the form of the constraint that a formula says, and false if it or one on the way to that of a side is not valid.
func literalForm(n api.Node, truth bool) (api.Lin, bool) {
	less, more := n.Kids[0], n.Kids[1]
	if !truth {
		less, more = more, less
	}
	// Among integers, one that is less than another one is so by at least 1.
	if strict := (n.Op == api.Lt) == truth; strict {
		return joined(less, more, -1, 1)
	}
	return joined(less, more, -1, 0)
}
