package linear

import "quantale/api"

// maxCons is the greatest number of constraints that a derivation may refute.
const maxCons = 2000

// Step returns the rounded sum of the multiples of constraints.
func Step(cons []api.Con, s []api.Mult) (api.Con, api.Errno) {
	if !allValid(cons) {
		return api.Con{}, api.ErrForm
	}
	c, e := step(cons, s)
	c.Form = copyForm(c.Form)
	return c, e
}

// step is Step over constraints that are known to be valid.
func step(cons []api.Con, s []api.Mult) (api.Con, api.Errno) {
	if len(s) == 0 {
		return api.Con{}, api.ErrRange
	}
	rel := isZero
	for _, m := range s {
		if !allowed(cons, m) {
			return api.Con{}, api.ErrRange
		}
		rel = max(rel, cons[m.Index].Rel)
	}
	f, ok := total(cons, s).form()
	if !ok {
		return api.Con{}, api.ErrLimit
	}
	return round(api.Con{Form: f, Rel: rel}), api.OK
}

// allowed reports whether a step may use a multiple: a constraint that is at most zero is kept by positive ones alone.
func allowed(cons []api.Con, m api.Mult) bool {
	if m.Index < 0 || m.Index >= len(cons) {
		return false
	}
	return m.Coef > 0 || m.Coef < 0 && cons[m.Index].Rel == isZero
}

// total returns the sum of multiples. It halves them, so that no monomial is merged more often than there are halvings.
func total(cons []api.Con, s []api.Mult) sum {
	if len(s) == 1 {
		return multiple(cons[s[0].Index].Form, s[0].Coef)
	}
	half := len(s) / 2
	return total(cons, s[:half]).plus(total(cons, s[half:]))
}

// Refutes reports whether a derivation shows that no integers satisfy all constraints.
func Refutes(cons []api.Con, d api.Deriv) (bool, api.Errno) {
	switch {
	case len(cons) > maxCons || !allValid(cons):
		return false, api.ErrForm
	case !within(d):
		return false, api.ErrLimit
	}
	// What stands behind the constraints in memory is not written over.
	return refutes(cons[:len(cons):len(cons)], d), api.OK
}

// refutes is Refutes over constraints that are known to be valid; it may write behind them.
func refutes(known []api.Con, d api.Deriv) bool {
	found := false
	for _, s := range d.Steps {
		c, e := step(known, s)
		if e != api.OK {
			return false
		}
		found = found || contradictory(c)
		known = append(known, c)
	}
	if d.Split {
		return refutesBoth(known, d)
	}
	return found && len(d.Kids) == 0 && Equal(d.Form, api.Lin{})
}

// refutesBoth reports whether the kids of a split refute the constraints, each with its own half.
func refutesBoth(known []api.Con, d api.Deriv) bool {
	if len(d.Kids) != 2 || !Valid(d.Form) {
		return false
	}
	rest, ok := combine(api.Lin{Const: 1}, d.Form, 1, -1)
	if !ok {
		return false
	}
	// Both kids go on behind the same constraints; neither of them writes where the other one does.
	shared := known[:len(known):len(known)]
	return refutes(append(shared, api.Con{Form: d.Form, Rel: isAtMostZero}), d.Kids[0]) &&
		refutes(append(shared, api.Con{Form: rest, Rel: isAtMostZero}), d.Kids[1])
}
