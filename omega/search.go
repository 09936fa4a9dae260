package omega

import "quantale/api"

const (
	// maxRoom is the room of a search: about as many numbers of rows may be looked at.
	maxRoom = 1 << 26
	// productRoom is what a product of numbers takes.
	productRoom = 8
	// maxSteps is the greatest number of steps and splits of a derivation.
	maxSteps = 2000
	// maxDeep is the greatest number of derivations that lie within each other.
	maxDeep = 60
	// maxSplinters is the greatest coefficient for which a gap is closed by making its rows narrower. Up to it, that is sure to end for two atoms.
	maxSplinters = 4
)

// search looks for a solution of rows over atoms, or for a derivation of a contradiction.
type search struct {
	atoms []api.Node
	room  int
	steps int
}

// The kinds of answers.
const (
	open    = iota // neither a solution nor a derivation has been found
	found          // a solution has
	refuted        // a derivation has
)

type answer struct {
	kind  int
	nums  []int64
	deriv api.Deriv
}

// newSearch returns a search over the atoms of constraints, which are valid.
func newSearch(cons []api.Con) *search {
	return &search{atoms: atomsOf(cons), room: maxRoom}
}

// width is the number of numbers of a row.
func (s *search) width() int {
	return len(s.atoms) + 1
}

// rows returns constraints as rows over the atoms; without their coefficients if there is no room for them.
func (s *search) rows(cons []api.Con) []row {
	l := make([]row, len(cons))
	s.room -= len(cons) * s.width()
	for i, c := range cons {
		if s.room >= 0 {
			l[i] = rowOf(c, s.atoms)
		}
	}
	return l
}

// run decides rows over the atoms.
func (s *search) run(given []row) answer {
	s.steps = maxSteps
	a := s.decide(given, 1)
	if a.kind == found && !holdAt(given, a.nums) || a.kind == refuted && s.steps < 0 {
		return answer{}
	}
	return a
}

// holdAt reports whether values satisfy rows, with no sum beyond maxSum.
func holdAt(rows []row, values []int64) bool {
	for _, r := range rows {
		v, ok := r.valueOf(values)
		if !ok || !satisfied(v, r.rel) {
			return false
		}
	}
	return true
}

// decide decides rows at a depth of the derivation.
func (s *search) decide(given []row, deep int) answer {
	t := newTable(s, given)
	t.eliminate()
	if t.wrong != none && !t.failed {
		return s.refute(t, given)
	}
	values, g := t.sample()
	switch {
	case t.failed:
		return answer{}
	case g == nil:
		return answer{kind: found, nums: values}
	case deep == maxDeep:
		return answer{}
	}
	p := t.splitOf(g, given)
	if t.failed {
		return answer{}
	}
	return s.branch(p, deep)
}

// refute returns the derivation of a table's contradictory row.
func (s *search) refute(t *table, given []row) answer {
	steps, known := t.proof(t.wrong, given)
	if t.failed || !known[len(known)-1].contradictory() {
		return answer{}
	}
	s.steps -= len(steps)
	return answer{kind: refuted, deriv: api.Deriv{Steps: steps}}
}

// split is a case distinction: in one case low is at most zero, in the other one high is, which is 1 - low. Known are the rows that both cases begin with, the last ones of which are the results of steps.
type split struct {
	steps     [][]api.Mult
	known     []row
	low, high row
}

// splitOf returns the split that closes a gap. One of its rows is made zero in one case, and narrower in the other one. That happens less often than its coefficient is great, for then the gap is wide enough for an integer; if the coefficient is too great for that, the values of the variable are split.
func (t *table) splitOf(g *gap, given []row) split {
	at, size := g.lower, -t.rows[g.lower].coefs[g.x]
	if c := t.rows[g.upper].coefs[g.x]; c < size {
		at, size = g.upper, c
	}
	if size > maxSplinters {
		return t.cases(split{known: given, low: row{coefs: g.coefs, rest: -g.most, rel: isAtMostZero}})
	}
	if twin := t.rows[at].twin; twin != none {
		at = twin
	}
	steps, known := t.proof(at, given)
	if t.failed {
		return split{}
	}
	r := known[len(known)-1]
	if len(steps) == 0 {
		r = known[at]
	}
	p := t.cases(split{steps: steps, known: known, low: row{coefs: opposite(r.coefs), rest: -r.rest, rel: isAtMostZero}})
	// The integers between the old row and the narrower one need not be left out of a solution.
	p.high.assumed = true
	return p
}

// cases completes a split that has its low case.
func (t *table) cases(p split) split {
	p.high = row{coefs: opposite(p.low.coefs), rest: 1 - p.low.rest, rel: isAtMostZero}
	t.failed = t.failed || !between(p.low.rest, maxAmount) || !between(p.high.rest, maxAmount)
	return p
}

// branch decides both cases of a split, first the one that is usually wider.
func (s *search) branch(p split, deep int) answer {
	s.steps -= len(p.steps) + 1
	// Both cases begin with the same rows; neither of them writes where the other one does.
	shared := p.known[:len(p.known):len(p.known)]
	high := s.decide(append(shared, p.high), deep+1)
	if high.kind == found {
		return high
	}
	low := s.decide(append(shared, p.low), deep+1)
	switch {
	case low.kind == found:
		return low
	case low.kind == open || high.kind == open:
		return answer{}
	}
	return answer{kind: refuted, deriv: api.Deriv{Steps: p.steps, Split: true, Form: p.low.form(s.atoms), Kids: []api.Deriv{low.deriv, high.deriv}}}
}
