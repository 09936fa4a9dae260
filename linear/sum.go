package linear

import (
	"quantale/api"
	"quantale/exact"
	"quantale/logic"
)

// term is a monomial of a sum.
type term struct {
	coef exact.Int
	atom api.Node
}

// sum is a linear form with numbers of any size, and with coefficients that may be 0. Its terms are sorted by their atoms, each atom once.
type sum struct {
	terms []term
	rest  exact.Int
}

func multiple(f api.Lin, by int64) sum {
	s := sum{terms: make([]term, len(f.Monos)), rest: exact.Product(f.Const, by)}
	for i, m := range f.Monos {
		s.terms[i] = term{exact.Product(m.Coef, by), m.Atom}
	}
	return s
}

func (s sum) plus(t sum) sum {
	return sum{merge(s.terms, t.terms), s.rest.Plus(t.rest)}
}

// merge joins two sorted lists of terms into one.
func merge(a, b []term) []term {
	l := make([]term, 0, len(a)+len(b))
	i, j := 0, 0
	for i < len(a) && j < len(b) {
		c := logic.Compare(a[i].atom, b[j].atom)
		switch {
		case c < 0:
			l = append(l, a[i])
		case c > 0:
			l = append(l, b[j])
		default:
			l = append(l, term{a[i].coef.Plus(b[j].coef), a[i].atom})
		}
		if c <= 0 {
			i++
		}
		if c >= 0 {
			j++
		}
	}
	l = append(l, a[i:]...)
	return append(l, b[j:]...)
}

// form returns a sum as a form, and false if a number of it is too great.
func (s sum) form() (api.Lin, bool) {
	rest, ok := s.rest.Within(maxAmount)
	if !ok {
		return api.Lin{}, false
	}
	f := api.Lin{Const: rest}
	for _, t := range s.terms {
		coef, ok := t.coef.Within(maxAmount)
		if !ok {
			return api.Lin{}, false
		}
		if coef != 0 {
			f.Monos = append(f.Monos, api.Mono{Coef: coef, Atom: t.atom})
		}
	}
	return f, true
}

// combine returns the form p*a + q*b, and false if a number of it is too great.
func combine(a, b api.Lin, p, q int64) (api.Lin, bool) {
	return multiple(a, p).plus(multiple(b, q)).form()
}
