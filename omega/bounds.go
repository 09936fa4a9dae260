package omega

import (
	"quantale/api"
	"quantale/linear"
)

const (
	// maxBound is the greatest amount of a bound that is looked for.
	maxBound = 1000000000
	// searches is how many times the room of one search all searches for bounds have.
	searches = 8
)

// The parts of a kind of bounds.
const (
	someSolution = 1
	noLeast      = 2
	noMost       = 4
)

// Bounds returns the least and the greatest value of a form over all solutions of constraints.
func Bounds(cons []api.Con, f api.Lin) (least, most int64, kind int, e api.Errno) {
	if len(cons) > maxCons || !valid(cons) || !linear.Valid(f) {
		return 0, 0, 0, api.ErrForm
	}
	// The form stands behind the constraints, so that its atoms are those of the search, too.
	all := append(cons[:len(cons):len(cons)], api.Con{Form: f, Rel: isAtMostZero})
	s := newSearch(all)
	s.room *= searches
	rows := s.rows(all)
	given, form := rows[:len(cons):len(cons)], rows[len(cons)]
	first := s.run(given)
	if first.kind == refuted {
		return 0, 0, 0, api.OK
	}
	up := s.greatest(given, form, first)
	down := s.greatest(given, row{coefs: opposite(form.coefs), rest: -form.rest, rel: form.rel}, first)
	if up.kind == unclear || down.kind == unclear {
		return 0, 0, 0, api.ErrBudget
	}
	kind = someSolution
	if down.kind == endless {
		kind += noLeast
	}
	if up.kind == endless {
		kind += noMost
	}
	return -down.value, up.value, kind, api.OK
}

// The kinds of ends.
const (
	unclear = iota // not found, or too far away
	endless
	reached // at a value
)

// end is where the values of a form end.
type end struct {
	kind  int
	value int64
}

// greatest returns the end of the values of a form to which an answer gives the first one.
func (s *search) greatest(given []row, form row, first answer) end {
	if first.kind != found {
		return end{}
	}
	switch s.run(directions(given, form)).kind {
	case found:
		return end{kind: endless}
	case open:
		return end{}
	}
	low, ok := form.valueOf(first.nums)
	if !ok || low > maxBound || s.run(atLeast(given, form, maxBound+1)).kind != refuted {
		return end{}
	}
	return s.approach(given, form, max(low, -maxBound-1))
}

// approach returns the greatest value of a form that is at most maxBound, by halves. Low is a value of the form, or less than all values that are looked for.
func (s *search) approach(given []row, form row, low int64) end {
	high := int64(maxBound)
	for low < high {
		middle := low + (high-low+1)/2
		a := s.run(atLeast(given, form, middle))
		switch a.kind {
		case open:
			return end{}
		case refuted:
			high = middle - 1
			continue
		}
		// The value is at most high; no sum of a solution is too great.
		low, _ = form.valueOf(a.nums)
	}
	if low < -maxBound {
		return end{}
	}
	return end{kind: reached, value: low}
}

// atLeast adds to rows that a form is at least n.
func atLeast(given []row, form row, n int64) []row {
	return append(given[:len(given):len(given)], row{coefs: opposite(form.coefs), rest: n - form.rest, rel: isAtMostZero})
}

// directions returns rows that say in which directions one may go on from a solution for ever, while a form grows.
func directions(given []row, form row) []row {
	l := make([]row, 0, len(given)+1)
	for _, r := range given {
		l = append(l, row{coefs: r.coefs, rel: r.rel})
	}
	return atLeast(l, row{coefs: form.coefs}, 1)
}
