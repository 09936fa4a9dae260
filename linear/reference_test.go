package linear_test

import (
	"fmt"
	"math/big"
	"slices"

	"quantale/api"
	"quantale/logic"
)

// plain is a linear form over numbers of any size, without the package that is tested: coefficients by the texts of their atoms.
type plain struct {
	coefs map[string]*big.Int
	atoms map[string]api.Node
	rest  *big.Int
}

func newPlain() plain {
	return plain{map[string]*big.Int{}, map[string]api.Node{}, new(big.Int)}
}

// add adds a multiple of a form.
func (p plain) add(q plain, by *big.Int) {
	for k, c := range q.coefs {
		if p.coefs[k] == nil {
			p.coefs[k], p.atoms[k] = new(big.Int), q.atoms[k]
		}
		p.coefs[k].Add(p.coefs[k], new(big.Int).Mul(c, by))
	}
	p.rest.Add(p.rest, new(big.Int).Mul(q.rest, by))
}

func plainOf(f api.Lin) plain {
	p := newPlain()
	for _, m := range f.Monos {
		k := fmt.Sprint(m.Atom)
		p.coefs[k], p.atoms[k] = big.NewInt(m.Coef), m.Atom
	}
	p.rest.SetInt64(f.Const)
	return p
}

func fits(n *big.Int) bool { return new(big.Int).Abs(n).Cmp(big.NewInt(great)) <= 0 }

// lin returns the form, and false if a number of it is too great.
func (p plain) lin() (api.Lin, bool) {
	f := api.Lin{Const: p.rest.Int64()}
	ok := fits(p.rest)
	for k, c := range p.coefs {
		ok = ok && fits(c)
		if c.Sign() != 0 {
			f.Monos = append(f.Monos, mono(c.Int64(), p.atoms[k]))
		}
	}
	slices.SortFunc(f.Monos, func(a, b api.Mono) int { return logic.Compare(a.Atom, b.Atom) })
	if !ok {
		return api.Lin{}, false
	}
	return f, true
}

// plainTerm returns the form of a term, and false if a number on the way is too great.
func plainTerm(n api.Node) (plain, bool) {
	p := newPlain()
	by := []int64{}
	switch n.Op {
	case api.Int:
		p.rest.SetInt64(n.Num)
	case api.Add:
		by = []int64{1, 1}
	case api.Sub:
		by = []int64{1, -1}
	case api.Neg:
		by = []int64{-1}
	case api.Scale:
		by = []int64{n.Num}
	default:
		return plainOf(lin(0, mono(1, n))), true
	}
	for k, b := range by {
		q, ok := plainTerm(n.Kids[k])
		if !ok {
			return p, false
		}
		p.add(q, big.NewInt(b))
	}
	_, ok := p.lin()
	return p, ok
}

// plainLiteral returns what an Eq that is true, an Le or an Lt says, and false if that is too great.
func plainLiteral(n api.Node, truth bool) (api.Con, bool) {
	a, okA := plainTerm(n.Kids[0])
	b, okB := plainTerm(n.Kids[1])
	if !truth {
		a, b = b, a
	}
	p := newPlain()
	p.add(a, big.NewInt(1))
	p.add(b, big.NewInt(-1))
	if n.Op == api.Lt && truth || n.Op == api.Le && !truth {
		p.rest.Add(p.rest, big.NewInt(1))
	}
	f, ok := p.lin()
	if !okA || !okB || !ok {
		return api.Con{}, false
	}
	if n.Op == api.Eq {
		return zero(f), true
	}
	return atMost(f), true
}

// plainAdd is Add of valid forms.
func plainAdd(a, b api.Lin, p, q int64) (api.Lin, api.Errno) {
	sum := newPlain()
	sum.add(plainOf(a), big.NewInt(p))
	sum.add(plainOf(b), big.NewInt(q))
	if f, ok := sum.lin(); ok {
		return f, api.OK
	}
	return api.Lin{}, api.ErrLimit
}

// plainRound is Round of a valid constraint.
func plainRound(c api.Con) api.Con {
	if len(c.Form.Monos) == 0 {
		return c
	}
	g := new(big.Int)
	for _, m := range c.Form.Monos {
		g.GCD(nil, nil, g, new(big.Int).Abs(big.NewInt(m.Coef)))
	}
	up, rest := new(big.Int).DivMod(big.NewInt(c.Form.Const), g, new(big.Int))
	if c.Rel == 0 && rest.Sign() != 0 {
		return zero(lin(1))
	}
	if rest.Sign() != 0 {
		up.Add(up, big.NewInt(1))
	}
	sign := int64(1)
	if c.Rel == 0 && c.Form.Monos[0].Coef < 0 {
		sign = -1
	}
	f := lin(sign * up.Int64())
	for _, m := range c.Form.Monos {
		f.Monos = append(f.Monos, mono(sign*m.Coef/g.Int64(), m.Atom))
	}
	return api.Con{Form: f, Rel: c.Rel}
}

// plainStep is Step over constraints that are valid.
func plainStep(cons []api.Con, s []api.Mult) (api.Con, api.Errno) {
	p := newPlain()
	rel := 0
	for _, m := range s {
		if m.Index < 0 || m.Index >= len(cons) || m.Coef == 0 || m.Coef < 0 && cons[m.Index].Rel == 1 {
			return api.Con{}, api.ErrRange
		}
		p.add(plainOf(cons[m.Index].Form), big.NewInt(m.Coef))
		rel |= cons[m.Index].Rel
	}
	if len(s) == 0 {
		return api.Con{}, api.ErrRange
	}
	f, ok := p.lin()
	if !ok {
		return api.Con{}, api.ErrLimit
	}
	return plainRound(api.Con{Form: f, Rel: rel}), api.OK
}

// plainSize counts the steps and splits of a derivation, and those that lie within each other.
func plainSize(d api.Deriv) (count, deep int) {
	count = len(d.Steps)
	if d.Split {
		count++
	}
	for _, k := range d.Kids {
		n, levels := plainSize(k)
		count, deep = count+n, max(deep, levels)
	}
	return count, deep + 1
}

// plainRefutes is Refutes over constraints that are valid, for derivations within the limits, the forms of whose splits are valid.
func plainRefutes(cons []api.Con, d api.Deriv) bool {
	all := slices.Clone(cons)
	for _, s := range d.Steps {
		c, e := plainStep(all, s)
		if e != api.OK {
			return false
		}
		all = append(all, c)
	}
	if !d.Split {
		own := all[len(cons):]
		return len(d.Kids) == 0 && len(d.Form.Monos) == 0 && d.Form.Const == 0 && slices.ContainsFunc(own, func(c api.Con) bool {
			return len(c.Form.Monos) == 0 && (c.Form.Const > 0 || c.Rel == 0 && c.Form.Const != 0)
		})
	}
	if len(d.Kids) != 2 {
		return false
	}
	other := newPlain()
	other.rest.SetInt64(1)
	other.add(plainOf(d.Form), big.NewInt(-1))
	f, ok := other.lin()
	return ok && plainRefutes(append(slices.Clone(all), atMost(d.Form)), d.Kids[0]) && plainRefutes(append(slices.Clone(all), atMost(f)), d.Kids[1])
}
