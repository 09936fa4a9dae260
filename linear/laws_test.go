package linear_test

import (
	"slices"
	"testing"

	"quantale/api"
	"quantale/linear"
	"quantale/logic"
	"quantale/model"
)

// source makes terms, forms, constraints and derivations by a fixed sequence of numbers.
type source struct{ state uint64 }

func (r *source) below(n int) int {
	r.state = r.state*6364136223846793005 + 1442695040888963407
	return int(r.state>>33) % n
}

// small is a number from -n to n.
func (r *source) small(n int) int64 { return int64(r.below(2*n+1) - n) }

// number is mostly small, and sometimes at a bound.
func (r *source) number() int64 {
	if r.below(5) == 0 {
		return []int64{api.MaxNum, -api.MaxNum, 1 << 27, -1 << 26, 9007}[r.below(5)]
	}
	return r.small(6)
}

// atoms has atoms of integers, in their order.
func atoms() []api.Node {
	a := variable("a", api.SArr)
	l := []api.Node{x, y, z, call("f", api.SInt, x), call("f", api.SInt, node(api.Add, x, num(1))), call("len", api.SInt, u), node(api.Ite, node(api.Le, x, y), x, scale(2, y)), node(api.Sel, a, x), node(api.Len, a)}
	slices.SortFunc(l, logic.Compare)
	return l
}

var listed = atoms()

func (r *source) atom() api.Node { return listed[r.below(len(listed))] }

// term returns an integer term.
func (r *source) term(levels int) api.Node {
	if levels == 1 || r.below(6) == 0 {
		if r.below(3) == 0 {
			return num(r.number())
		}
		return r.atom()
	}
	switch r.below(5) {
	case 0:
		return node(api.Sub, r.term(levels-1), r.term(levels-1))
	case 1:
		return node(api.Neg, r.term(levels-1))
	case 2:
		return scale(r.number(), scale(r.number(), r.term(levels-1)))
	}
	return node(api.Add, r.term(levels-1), r.term(levels-1))
}

// form returns a valid form over some of the first atoms.
func (r *source) form(count int, number func() int64) api.Lin {
	f := lin(number())
	for _, a := range listed[:count] {
		if n := number(); n != 0 && r.below(3) > 0 {
			f.Monos = append(f.Monos, mono(n, a))
		}
	}
	return f
}

// edge is a number of a form, also at its bounds.
func (r *source) edge() int64 {
	if r.below(4) == 0 {
		return []int64{great, -great, great - 1, great / 2, -great / 2}[r.below(5)]
	}
	return r.small(12)
}

// factor is any number by which one may multiply.
func (r *source) factor() int64 {
	if r.below(5) == 0 {
		return []int64{1<<63 - 1, -1 << 63, 1 << 62, great, great + 1, -great, 1 << 40}[r.below(7)]
	}
	return r.small(5)
}

func (r *source) world(t *testing.T) api.Model {
	t.Helper()
	var m api.Model
	for _, name := range []string{"x", "y", "z"} {
		m = append(m, api.Entry{Name: name, Val: api.Val{Sort: api.SInt, Num: r.small(50)}})
	}
	m = append(m, api.Entry{Name: "u", Val: api.Val{Sort: api.SObj, Num: r.small(2)}},
		api.Entry{Name: "a", Val: api.Val{Sort: api.SArr, Num: int64(r.below(9)), At: []int64{m[0].Val.Num}, To: []int64{7}}})
	for k := range int64(101) {
		m = append(m, api.Entry{Name: "f", Args: []api.Val{{Sort: api.SInt, Num: k - 50}}, Val: api.Val{Sort: api.SInt, Num: r.small(99)}})
	}
	for k := range int64(5) {
		m = append(m, api.Entry{Name: "len", Args: []api.Val{{Sort: api.SObj, Num: k - 2}}, Val: api.Val{Sort: api.SInt, Num: int64(r.below(9))}})
	}
	if !model.Valid(m) {
		t.Fatal("no model")
	}
	return m
}

// at returns the value of a form of integers in a model.
func at(t *testing.T, f api.Lin, m api.Model) int64 {
	t.Helper()
	n := f.Const
	for _, mo := range f.Monos {
		v, e := model.Value(mo.Atom, m)
		if e != api.OK {
			t.Fatalf("P3.2: %d", e)
		}
		n += mo.Coef * v.Num
	}
	return n
}

func TestOfLaws(t *testing.T) {
	r := &source{state: 1}
	seen := map[api.Errno]int{}
	for range 5000 {
		n := r.term(1 + r.below(6))
		got, e := linear.Of(n)
		seen[e]++
		p, ok := plainTerm(n)
		want, _ := p.lin()
		if ok != (e == api.OK) || ok && !same(got, want) || !ok && (e != api.ErrLimit || !same(got, api.Lin{})) {
			t.Fatalf("P4.1: Of(%v) is %v, %d, not %v, %v", n, got, e, want, ok)
		}
		if !ok {
			continue
		}
		if !linear.Valid(got) {
			t.Fatalf("P4.1: Of(%v) is not valid", n)
		}
		// A model's numbers are at most 99, so that the sum is an int64 here where it is one there.
		m := r.world(t)
		if v, e := model.Value(n, m); e == api.OK && v.Num != at(t, got, m) {
			t.Fatalf("P4.5: the value of Of(%v) is %d, not %d", n, at(t, got, m), v.Num)
		} else if e == api.OK {
			seen[-1]++
		}
		term, e := linear.Term(got)
		if e != api.OK {
			if e != api.ErrForm {
				t.Fatalf("P4.1: Term(%v) is error %d", got, e)
			}
			continue
		}
		if again, e := linear.Of(term); e != api.OK || !same(again, got) || !linear.Equal(again, got) {
			t.Fatalf("P4.1: Of(Term(%v)) is %v, %d", got, again, e)
		}
	}
	if seen[api.OK] < 1000 || seen[api.ErrLimit] < 100 || seen[-1] < 1000 {
		t.Errorf("too few of a kind: %v", seen)
	}
}

func TestAddLaws(t *testing.T) {
	r := &source{state: 2}
	seen := map[api.Errno]int{}
	for range 5000 {
		f, g := r.form(6, r.edge), r.form(6, r.edge)
		p, q := r.factor(), r.factor()
		got, e := linear.Add(f, g, p, q)
		seen[e]++
		want, we := plainAdd(f, g, p, q)
		if e != we || !same(got, want) {
			t.Fatalf("P4.1: %d*%v + %d*%v is %v, %d, not %v, %d", p, f, q, g, got, e, want, we)
		}
	}
	for range 1000 {
		// Add is linear: p(f + g) = pf + pg, and (p + q)f = pf + qf.
		few := func() int64 { return r.small(9) }
		f, g, p, q := r.form(6, few), r.form(6, few), r.small(9), r.small(9)
		sum, _ := linear.Add(f, g, 1, 1)
		left, _ := linear.Add(sum, api.Lin{}, p, 0)
		right, e := linear.Add(f, g, p, p)
		if e != api.OK || !linear.Equal(left, right) {
			t.Fatalf("P4.5: %v, %v, %d", f, g, p)
		}
		left, _ = linear.Add(f, api.Lin{}, p+q, 0)
		right, e = linear.Add(f, f, p, q)
		if e != api.OK || !linear.Equal(left, right) {
			t.Fatalf("P4.5: %v, %d, %d", f, p, q)
		}
		m := r.world(t)
		if both, _ := linear.Add(f, g, p, q); at(t, both, m) != p*at(t, f, m)+q*at(t, g, m) {
			t.Fatalf("P4.5: the value of %d*%v + %d*%v", p, f, q, g)
		}
	}
	if seen[api.OK] < 500 || seen[api.ErrLimit] < 500 {
		t.Errorf("too few of a kind: %v", seen)
	}
}

// holds reports whether integers for the first atoms satisfy a constraint.
func holds(c api.Con, nums []int64) bool {
	n := c.Form.Const
	for _, m := range c.Form.Monos {
		k := slices.IndexFunc(listed, func(a api.Node) bool { return logic.Equal(a, m.Atom) })
		n += m.Coef * nums[k]
	}
	return n == 0 || c.Rel == 1 && n < 0
}

// points are all integers from -n to n for a number of atoms.
func points(atoms int, n int64) [][]int64 {
	l := [][]int64{{}}
	for range atoms {
		var next [][]int64
		for _, p := range l {
			for k := -n; k <= n; k++ {
				next = append(next, append(slices.Clone(p), k))
			}
		}
		l = next
	}
	return l
}

func TestRoundLaws(t *testing.T) {
	r := &source{state: 3}
	all := points(2, 6)
	for range 3000 {
		c := api.Con{Form: r.form(2, r.edge), Rel: r.below(2)}
		got, e := linear.Round(c)
		if e != api.OK || !sameCon(got, plainRound(c)) {
			t.Fatalf("P4.2: Round(%v) is %v, %d, not %v", c, got, e, plainRound(c))
		}
		c.Form = r.form(2, func() int64 { return r.small(9) })
		by := 1 + r.small(4)
		if scaled, e := linear.Add(c.Form, api.Lin{}, by, 0); e == api.OK && by > 0 {
			scaled.Const += r.small(3)
			c.Form = scaled
		}
		if got, e = linear.Round(c); e != api.OK || !sameCon(got, plainRound(c)) {
			t.Fatalf("P4.2: Round(%v) is %v, %d, not %v", c, got, e, plainRound(c))
		}
		for _, p := range all {
			if holds(c, p) != holds(got, p) {
				t.Fatalf("P4.5: %v and %v at %v", c, got, p)
			}
			if linear.Contradictory(got) && holds(got, p) {
				t.Fatalf("P4.2: %v is not contradictory", got)
			}
		}
	}
}

// cons returns valid constraints over the first atoms.
func (r *source) cons(count, atoms int, number func() int64) []api.Con {
	var l []api.Con
	for range count {
		l = append(l, api.Con{Form: r.form(atoms, number), Rel: min(1, r.below(4))})
	}
	return l
}

// step returns multiples of constraints; few of them are none.
func (r *source) step(cons []api.Con, factor func() int64) []api.Mult {
	var s []api.Mult
	for range r.below(4) {
		m := mult(r.below(len(cons)), factor())
		if cons[m.Index].Rel == 1 && m.Coef < 0 && m.Coef > -1<<63 && r.below(40) > 0 {
			m.Coef = -m.Coef
		}
		if r.below(60) == 0 {
			m.Index = []int{-1, len(cons), len(cons) + 1}[r.below(3)]
		}
		s = append(s, m)
	}
	return s
}

func TestStepLaws(t *testing.T) {
	r := &source{state: 4}
	seen := map[api.Errno]int{}
	all := points(3, 3)
	for k := range 8000 {
		number, factor := r.edge, r.factor
		if k%2 == 0 {
			number, factor = func() int64 { return r.small(4) }, func() int64 { return r.small(4) }
		}
		cons := r.cons(1+r.below(4), 3, number)
		s := r.step(cons, factor)
		got, e := linear.Step(cons, s)
		seen[e]++
		if want, we := plainStep(cons, s); e != we || !sameCon(got, want) {
			t.Fatalf("P4.4: Step of %v over %v is %v, %d, not %v, %d", s, cons, got, e, want, we)
		}
		if e != api.OK || k%2 > 0 || k > 2000 {
			continue
		}
		for _, p := range all {
			if !slices.ContainsFunc(cons, func(c api.Con) bool { return !holds(c, p) }) && !holds(got, p) {
				t.Fatalf("P4.5: %v satisfies %v, but not the step %v", p, cons, got)
			}
		}
	}
	if seen[api.OK] < 1000 || seen[api.ErrLimit] < 200 || seen[api.ErrRange] < 500 {
		t.Errorf("too few of a kind: %v", seen)
	}
}

// coefOf returns the coefficient of an atom.
func coefOf(f api.Lin, a api.Node) int64 {
	for _, m := range f.Monos {
		if logic.Equal(m.Atom, a) {
			return m.Coef
		}
	}
	return 0
}

// derive looks for a derivation: it eliminates the atoms one by one, and splits where that is not enough. The derivation need not refute.
func (r *source) derive(cons []api.Con, deep int) api.Deriv {
	var d api.Deriv
	all := slices.Clone(cons)
	if deep > 0 && r.below(2) == 0 {
		return r.divide(all, d, deep)
	}
	for _, a := range listed[:3] {
		for i := range len(all) {
			for j := range i {
				p, q := coefOf(all[i].Form, a), coefOf(all[j].Form, a)
				if p == 0 || q == 0 || len(d.Steps) > 60 || all[i].Rel == 1 && all[j].Rel == 1 && p*q > 0 {
					continue
				}
				s := []api.Mult{mult(i, q), mult(j, -p)}
				if all[i].Rel == 1 && q < 0 || all[j].Rel == 1 && p > 0 {
					s = []api.Mult{mult(i, -q), mult(j, p)}
				}
				c, e := linear.Step(all, s)
				if e != api.OK {
					continue
				}
				all, d.Steps = append(all, c), append(d.Steps, s)
				if linear.Contradictory(c) {
					return d
				}
			}
		}
	}
	if deep == 0 {
		return d
	}
	return r.divide(all, d, deep)
}

// divide ends a derivation, which has come to some constraints, with a split.
func (r *source) divide(all []api.Con, d api.Deriv, deep int) api.Deriv {
	d.Split, d.Form = true, lin(r.small(2), mono(1, listed[r.below(3)]))
	other, _ := linear.Add(lin(1), d.Form, 1, -1)
	d.Kids = []api.Deriv{r.derive(append(slices.Clone(all), atMost(d.Form)), deep-1), r.derive(append(slices.Clone(all), atMost(other)), deep-1)}
	return d
}

// change alters one thing of a derivation.
func (r *source) change(d api.Deriv) api.Deriv {
	d.Steps, d.Kids = slices.Clone(d.Steps), slices.Clone(d.Kids)
	switch r.below(7) {
	case 0:
		d.Split = !d.Split
	case 1:
		d.Form, _ = linear.Add(d.Form, lin(r.small(1)), 1, 1)
	case 2:
		if len(d.Steps) > 0 {
			d.Steps = slices.Delete(d.Steps, 0, 1+r.below(len(d.Steps)))
		}
	case 3:
		slices.Reverse(d.Kids)
	case 4:
		if len(d.Kids) > 0 {
			k := r.below(len(d.Kids))
			d.Kids[k] = r.change(d.Kids[k])
		}
	default:
		if len(d.Steps) > 0 {
			k := r.below(len(d.Steps))
			d.Steps[k] = slices.Clone(d.Steps[k])
			m := r.below(len(d.Steps[k]))
			d.Steps[k][m].Index += int(r.small(1))
			d.Steps[k][m].Coef += r.small(1)
		}
	}
	return d
}

func TestRefutesLaws(t *testing.T) {
	r := &source{state: 5}
	all := points(3, 3)
	seen := map[bool]int{}
	splits := 0
	for range 1000 {
		cons := r.cons(2+r.below(5), 3, func() int64 { return r.small(3) })
		d := r.derive(cons, r.below(3))
		for k := range 4 {
			got, e := linear.Refutes(cons, d)
			if e != api.OK || got != plainRefutes(cons, d) {
				t.Fatalf("P4.4: Refutes(%v, %v) is %v, %d", cons, d, got, e)
			}
			seen[got]++
			if got && d.Split {
				splits++
			}
			if got && k < 2 {
				for _, p := range all {
					if !slices.ContainsFunc(cons, func(c api.Con) bool { return !holds(c, p) }) {
						t.Fatalf("P4.5: %v satisfies %v, which %v refutes", p, cons, d)
					}
				}
			}
			d = r.change(d)
		}
	}
	if seen[true] < 500 || seen[false] < 500 || splits < 50 {
		t.Errorf("too few of a kind: %v, %d splits", seen, splits)
	}
}

func TestFromLiteralLaws(t *testing.T) {
	r := &source{state: 6}
	seen := 0
	for range 3000 {
		op := []int{api.Eq, api.Le, api.Lt}[r.below(3)]
		n := node(op, r.term(1+r.below(4)), r.term(1+r.below(4)))
		m := r.world(t)
		truth, e := model.Truth(n, m)
		if e != api.OK {
			continue
		}
		for _, said := range []bool{true, false} {
			cons, ok, e := linear.FromLiteral(n, said)
			if e == api.ErrLimit {
				continue
			}
			if e != api.OK || ok != (said || op != api.Eq) {
				t.Fatalf("P4.3: FromLiteral(%v, %v) is %v, %v, %d", n, said, cons, ok, e)
			}
			for _, c := range cons {
				v := at(t, c.Form, m)
				if met := v == 0 || c.Rel == 1 && v < 0; met != (truth == said) {
					t.Fatalf("P4.3: %v, said %v, is %v: %v is %v", n, said, truth, c, met)
				}
				seen++
			}
		}
	}
	if seen < 2000 {
		t.Errorf("only %d constraints", seen)
	}
}

// greatTerm returns a term whose numbers are at the bounds of forms, or near them.
func (r *source) greatTerm() api.Node {
	n := scale([]int64{1, -1}[r.below(2)], scale(1<<26, scale(1<<27, []api.Node{num(1), x}[r.below(2)])))
	if r.below(3) == 0 {
		n = num(r.small(2))
	}
	for range r.below(3) {
		n = node([]int{api.Add, api.Sub}[r.below(2)], n, []api.Node{num(r.small(2)), x}[r.below(2)])
	}
	return n
}

func TestFromLiteralLimitLaws(t *testing.T) {
	r := &source{state: 7}
	seen := map[api.Errno]int{}
	least := 0
	for range 6000 {
		n, truth := node([]int{api.Eq, api.Le, api.Lt}[r.below(3)], r.greatTerm(), r.greatTerm()), r.below(2) == 0
		if n.Op == api.Eq && !truth {
			continue
		}
		want, fits := plainLiteral(n, truth)
		got, ok, e := linear.FromLiteral(n, truth)
		seen[e]++
		switch {
		case !fits && (e != api.ErrLimit || ok || len(got) != 0):
			t.Fatalf("P4.3: FromLiteral(%v, %v) is %v, %v, %d, not ErrLimit", n, truth, got, ok, e)
		case fits && (e != api.OK || !ok || len(got) != 1 || !sameCon(got[0], want)):
			t.Fatalf("P4.3: FromLiteral(%v, %v) is %v, %v, %d, not %v", n, truth, got, ok, e, want)
		case fits && want.Form.Const == -great:
			least++
		}
	}
	if seen[api.OK] < 500 || seen[api.ErrLimit] < 500 || least < 50 {
		t.Errorf("too few of a kind: %v, %d of the least constant", seen, least)
	}
}

// shape returns a derivation of any form, mostly of another than one that refutes: some parts of it are the same in memory.
func (r *source) shape(levels int, shared []api.Deriv) api.Deriv {
	d := api.Deriv{Split: r.below(3) == 0}
	if r.below(3) == 0 {
		d.Steps = make([][]api.Mult, r.below(90))
	}
	for range r.below(4) {
		if k := r.below(2 * len(shared)); k < len(shared) {
			d.Kids = append(d.Kids, shared[k])
		} else if levels > 1 {
			d.Kids = append(d.Kids, r.shape(levels-1, shared))
		}
	}
	return d
}

func TestRefutesLimitLaws(t *testing.T) {
	r := &source{state: 8}
	seen := map[string]int{}
	for range 2000 {
		shared := []api.Deriv{{}}
		for range 3 {
			shared = append(shared, r.shape(2, shared))
		}
		d := r.shape(2+r.below(4), shared)
		for range r.below(62) {
			d = api.Deriv{Kids: []api.Deriv{d, shared[r.below(len(shared))]}}
		}
		count, deep := plainSize(d)
		want := api.OK
		if count > 2000 || deep > 60 {
			want = api.ErrLimit
		}
		got, e := linear.Refutes(nil, d)
		if got || e != want {
			t.Fatalf("P4.4: %d steps and splits, %d deep: %v, %d", count, deep, got, e)
		}
		switch {
		case want == api.OK:
			seen["none"]++
		case count <= 2000:
			seen["deep"]++
		case deep <= 60:
			seen["many"]++
		}
	}
	if seen["none"] < 300 || seen["deep"] < 50 || seen["many"] < 200 {
		t.Errorf("too few of a kind: %v", seen)
	}
}
