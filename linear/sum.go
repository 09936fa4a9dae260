package linear

import (
	"math/bits"

	"quantale/api"
	"quantale/logic"
)

// exact is an integer of 192 bits in two's complement, its lowest word first. A sum of 2^31 products of two int64 does not overflow it.
type exact [3]uint64

func product(a, b int64) exact {
	high, low := bits.Mul64(uint64(a), uint64(b))
	// As a word, a negative factor is 2^64 more than it is.
	if a < 0 {
		high -= uint64(b)
	}
	if b < 0 {
		high -= uint64(a)
	}
	return exact{low, high, uint64(int64(high) >> 63)}
}

func (x exact) plus(y exact) exact {
	var z exact
	var carry uint64
	for i := range z {
		z[i], carry = bits.Add64(x[i], y[i], carry)
	}
	return z
}

// number returns an integer as a number of a form, and false if it is too great for one.
func (x exact) number() (int64, bool) {
	n := int64(x[0])
	sign := uint64(n >> 63)
	return n, x[1] == sign && x[2] == sign && bounded(n)
}

// term is a monomial of a sum.
type term struct {
	coef exact
	atom api.Node
}

// sum is a linear form with numbers of any size, and with coefficients that may be 0. Its terms are sorted by their atoms, each atom once.
type sum struct {
	terms []term
	rest  exact
}

func multiple(f api.Lin, by int64) sum {
	s := sum{terms: make([]term, len(f.Monos)), rest: product(f.Const, by)}
	for i, m := range f.Monos {
		s.terms[i] = term{product(m.Coef, by), m.Atom}
	}
	return s
}

func (s sum) plus(t sum) sum {
	return sum{merge(s.terms, t.terms), s.rest.plus(t.rest)}
}

// merge joins two sorted lists of terms into one.
func merge(a, b []term) []term {
	l := make([]term, 0, len(a)+len(b))
	i, j := 0, 0
	for i < len(a) && j < len(b) {
		c := logic.Compare(a[i].atom, b[j].atom)
		switch {
		case c < 0:
			l = append(l, a[i])
		case c > 0:
			l = append(l, b[j])
		default:
			l = append(l, term{a[i].coef.plus(b[j].coef), a[i].atom})
		}
		if c <= 0 {
			i++
		}
		if c >= 0 {
			j++
		}
	}
	l = append(l, a[i:]...)
	return append(l, b[j:]...)
}

// form returns a sum as a form, and false if a number of it is too great.
func (s sum) form() (api.Lin, bool) {
	rest, ok := s.rest.number()
	if !ok {
		return api.Lin{}, false
	}
	f := api.Lin{Const: rest}
	for _, t := range s.terms {
		coef, ok := t.coef.number()
		if !ok {
			return api.Lin{}, false
		}
		if coef != 0 {
			f.Monos = append(f.Monos, api.Mono{Coef: coef, Atom: t.atom})
		}
	}
	return f, true
}

// combine returns the form p*a + q*b, and false if a number of it is too great.
func combine(a, b api.Lin, p, q int64) (api.Lin, bool) {
	return multiple(a, p).plus(multiple(b, q)).form()
}
