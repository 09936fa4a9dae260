package model_test

import (
	"fmt"
	"slices"
	"strings"
	"testing"

	"quantale/api"
	"quantale/logic"
	"quantale/model"
)

// source makes nodes and models by a fixed sequence of numbers.
type source struct{ state uint64 }

func (r *source) below(n int) int {
	r.state = r.state*6364136223846793005 + 1442695040888963407
	return int(r.state>>33) % n
}

// number is mostly small, and sometimes at a bound.
func (r *source) number() int64 {
	if r.below(15) == 0 {
		return []int64{most, -most, most - 1, most / 2}[r.below(4)]
	}
	return int64(r.below(9) - 4)
}

func (r *source) ascending(count int) []int64 {
	var l []int64
	for range r.below(count) {
		l = append(l, r.number())
	}
	slices.Sort(l)
	return slices.Compact(l)
}

// val returns a valid value of a sort.
func (r *source) val(sort int) api.Val {
	v := api.Val{Sort: sort}
	switch sort {
	case api.SInt:
		v.Num = r.number()
	case api.SBool:
		v.Num = int64(r.below(2))
	case api.SObj:
		v.Num = int64(r.below(3))
	case api.SSet:
		v.Set = r.ascending(6)
		if r.below(20) == 0 {
			v.Set = span(r.number()/4, int64(150+r.below(51)))
		}
	case api.SArr:
		v.Num = int64(r.below(4))
		v.At = r.ascending(5)
		if r.below(20) == 0 {
			v.At = span(r.number()/4, int64(198+r.below(3)))
		}
		for range v.At {
			v.To = append(v.To, int64(1+r.below(4)))
		}
	}
	return v
}

// model returns a valid model of the names of helpers_test.go.
func (r *source) model(t *testing.T) api.Model {
	t.Helper()
	var m api.Model
	add := func(e api.Entry) {
		if r.below(4) > 0 {
			var err api.Errno
			if m, err = model.Set(m, e); err != api.OK {
				t.Fatalf("P3.3: %d", err)
			}
		}
	}
	for _, d := range declared() {
		add(entry(d.Name, r.val(d.Sort)))
	}
	for _, s := range signed() {
		for range 6 {
			var args []api.Val
			for _, sort := range s.Args {
				args = append(args, r.val(max(sort, api.SInt)))
			}
			add(entry(s.Name, r.val(s.Sort), args...))
		}
	}
	return m
}

// leaf returns a node of a sort without kids.
func (r *source) leaf(sort int) api.Node {
	if r.below(4) == 0 {
		switch sort {
		case api.SInt:
			return api.Node{Op: api.Int, Num: []int64{0, 1, -2, 3, api.MaxNum, -api.MaxNum}[r.below(6)]}
		case api.SBool:
			return node(api.True + r.below(2))
		case api.SObj:
			return call("nil", sort)
		case api.SSet:
			return node(api.Empty)
		}
	}
	var l []api.Decl
	for _, d := range declared() {
		if d.Sort == sort {
			l = append(l, d)
		}
	}
	d := l[r.below(len(l))]
	return variable(d.Name, d.Sort)
}

// shape is an operator with the sorts of its kids.
type shape struct {
	op   int
	kids []int
}

func shapes(sort int) []shape {
	const i, b, o, s, a = api.SInt, api.SBool, api.SObj, api.SSet, api.SArr
	l := []shape{{api.Ite, []int{b, sort, sort}}}
	switch sort {
	case i:
		return append(l, shape{api.Add, []int{i, i}}, shape{api.Sub, []int{i, i}}, shape{api.Neg, []int{i}}, shape{api.Scale, []int{i}}, shape{api.Sel, []int{a, i}}, shape{api.Len, []int{a}})
	case b:
		return []shape{{api.Not, []int{b}}, {api.And, []int{b, b}}, {api.Or, []int{b, b}}, {api.Imp, []int{b, b}}, {api.Iff, []int{b, b}}, {api.Le, []int{i, i}}, {api.Lt, []int{i, i}},
			{api.Mem, []int{i, s}}, {api.Subset, []int{s, s}}, {api.Eq, []int{i, i}}, {api.Eq, []int{o, o}}, {api.Eq, []int{s, s}}, {api.Eq, []int{a, a}}}
	case s:
		return append(l, shape{api.Sing, []int{i}}, shape{api.Cup, []int{s, s}}, shape{api.Cap, []int{s, s}}, shape{api.Minus, []int{s, s}})
	case a:
		return append(l, shape{api.Sto, []int{a, i, i}}, shape{api.Sto, []int{a, i, i}})
	}
	return l
}

// node returns a well sorted, uniform node of a sort, of some levels.
func (r *source) node(sort, levels int) api.Node {
	if levels == 1 {
		return r.leaf(sort)
	}
	if r.below(4) == 0 {
		if n, ok := r.call(sort, levels); ok {
			return n
		}
	}
	l := shapes(sort)
	c := l[r.below(len(l))]
	n := node(c.op)
	if c.op == api.Scale {
		n.Num = []int64{2, -1, 0, -3, 1000003, api.MaxNum, -api.MaxNum}[r.below(7)]
	}
	for _, s := range c.kids {
		n.Kids = append(n.Kids, r.node(s, 1+r.below(levels-1)))
	}
	return n
}

// call returns an application of a function of a sort, if there is one.
func (r *source) call(sort, levels int) (api.Node, bool) {
	l := slices.DeleteFunc(signed(), func(s api.Sig) bool { return s.Sort != sort })
	if len(l) == 0 {
		return api.Node{}, false
	}
	s := l[r.below(len(l))]
	n := call(s.Name, sort)
	for _, arg := range s.Args {
		n.Kids = append(n.Kids, r.node(max(arg, api.SInt), 1+r.below(levels-1)))
	}
	return n, true
}

func TestReference(t *testing.T) {
	r := &source{state: 1}
	good, beyond := 0, 0
	for range 400 {
		m := r.model(t)
		for range 40 {
			n := r.node(sorts[r.below(5)], 1+r.below(7))
			want, ok := reference(n, m)
			if !ok {
				beyond++
				expectNone(t, "P3.2", n, m, api.ErrLimit)
				continue
			}
			good++
			expectValue(t, "P3.2", n, m, want.val())
			if v, _ := model.Value(n, m); !model.ValidVal(v) || v.Sort != logic.Sort(n) {
				t.Errorf("P3.2: the value of %v is %v", n, v)
			}
		}
	}
	if good < 1000 || beyond < 50 {
		t.Errorf("only %d values, %d beyond", good, beyond)
	}
}

// used keeps the entries of a model that have the name of a variable or an application of a node.
func used(m api.Model, n api.Node) api.Model {
	names := map[string]bool{}
	for _, d := range logic.Vars(n) {
		names[d.Name] = true
	}
	for _, a := range logic.Apps(n) {
		names[a.Name] = true
	}
	return slices.DeleteFunc(slices.Clone(m), func(e api.Entry) bool { return !names[e.Name] })
}

// The value hangs on the entries of what occurs, in any order, and on nothing else.
func TestOnlyUsedEntries(t *testing.T) {
	r := &source{state: 2}
	for range 2000 {
		m := r.model(t)
		n := r.node(sorts[r.below(5)], 1+r.below(4))
		want, e := model.Value(n, m)
		other := used(m, n)
		slices.Reverse(other)
		other = append(other, entry("none", number(3)), entry("i", number(9), set(1)), entry("cons", object(1)))
		if got, e2 := model.Value(n, other); e2 != e || !same(got, want) {
			t.Fatalf("P3.4: the value of %v is %v, %d, and with the used entries alone %v, %d", n, want, e, got, e2)
		}
	}
}

// Replacing a variable by a term has the value of setting the variable to the term's value.
func TestReplaced(t *testing.T) {
	r := &source{state: 3}
	good := 0
	for range 3000 {
		m := r.model(t)
		l := declared()
		d := l[r.below(len(l))]
		n, term := r.node(sorts[r.below(5)], 1+r.below(4)), r.node(d.Sort, 1+r.below(3))
		v, e := model.Value(term, m)
		if e != api.OK {
			continue
		}
		set, e := model.Set(m, entry(d.Name, v))
		if e != api.OK || !model.Valid(set) {
			t.Fatalf("P3.3: %d", e)
		}
		want, e := model.Value(n, set)
		got, e2 := model.Value(logic.Subst(n, d.Name, term), m)
		if e2 != e || !same(got, want) {
			t.Fatalf("P3.4: %v for %s in %v: %v, %d, not %v, %d", term, d.Name, n, got, e2, want, e)
		}
		good++
	}
	if good < 1000 {
		t.Errorf("only %d terms have values", good)
	}
}

// laws hold in every model in which nothing is beyond the limits.
func laws() []string {
	return []string{
		"(p && q <=> q && p) && (p || q <=> q || p)", "(p && (q || r) <=> p && q || p && r) && (p || q && r <=> (p || q) && (p || r))",
		"(p && q && r <=> p && (q && r)) && (p || q || r <=> p || (q || r))", "(p && true <=> p) && (p || false <=> p) && (p || !p) && !(p && !p) && (!(!p) <=> p)",
		"(!(p && q) <=> !p || !q) && (!(p || q) <=> !p && !q) && (p => q <=> !p || q) && ((p <=> q) <=> (p => q) && (q => p))",
		"(i < j <=> i <= j && i != j) && (!(i <= j) <=> j < i) && (i <= j || j <= i) && (i <= j && j <= i => i = j) && (i <= j && j <= k => i <= k)",
		"cup(s, t) = cup(t, s) && cap(s, t) = cap(t, s) && cup(s, s) = s && cap(s, s) = s", "cup(cup(s, t), w) = cup(s, cup(t, w)) && cap(cap(s, t), w) = cap(s, cap(t, w))",
		"cap(s, cup(t, w)) = cup(cap(s, t), cap(s, w)) && cup(s, cap(t, w)) = cap(cup(s, t), cup(s, w))", "diff(s, cup(t, w)) = cap(diff(s, t), diff(s, w)) && diff(s, cap(t, w)) = cup(diff(s, t), diff(s, w))",
		"cup(s, empty) = s && cap(s, empty) = empty && diff(s, empty) = s && diff(s, s) = empty && cup(cap(s, t), diff(s, t)) = s",
		"(i in cup(s, t) <=> i in s || i in t) && (i in cap(s, t) <=> i in s && i in t) && (i in diff(s, t) <=> i in s && !(i in t))", "!(i in empty) && (i in sing(j) <=> i = j) && (i in s <=> sing(i) sub s)",
		"(s sub t <=> cup(s, t) = t) && (s sub t <=> cap(s, t) = s) && (s sub t <=> diff(s, t) = empty) && (s sub t && t sub s <=> s = t) && empty sub s", "s sub t && i in s => i in t",
		"sel(sto(a, i, j), i) = j && vlen(sto(a, i, j)) = vlen(a) && 0 <= vlen(a)", "i != k => sel(sto(a, i, j), k) = sel(a, k)", "sto(a, i, sel(a, i)) = a && sto(sto(a, i, j), i, k) = sto(a, i, k)",
		"i != j => sto(sto(a, i, k), j, 1) = sto(sto(a, j, 1), i, k)", "a = b => vlen(a) = vlen(b) && sel(a, i) = sel(b, i)", "sto(a, i, j) = sto(b, i, j) && sel(a, i) = sel(b, i) => a = b",
		"ite(p, i, j) = i || !p && ite(p, i, j) = j", "(ite(p, s, t) = s || !p) && (ite(p, s, t) = t || p)", "i = j => f(i) = f(j) && g(i, j) = g(j, i)", "o = u => (is(o) <=> is(u)) && elems(o) = elems(u)",
		"(p <=> q) => of(p) = of(q)", "s = t && a = b => items(s, a) = items(t, b)",
	}
}

func TestLaws(t *testing.T) {
	r := &source{state: 4}
	good := 0
	for range 300 {
		m := r.model(t)
		for _, law := range laws() {
			got, e := model.Truth(read(t, law), m)
			if e == api.OK && !got || e != api.OK && e != api.ErrLimit {
				t.Errorf("P3.4: %q is %v, %d in %v", law, got, e, m)
			}
			if e == api.OK {
				good++
			}
		}
	}
	if good < 300*len(laws())/2 {
		t.Errorf("only %d laws were within the limits", good)
	}
}

// TestSetLaws: what is set is what is found, and setting it again changes nothing more.
func TestSetLaws(t *testing.T) {
	r := &source{state: 5}
	for range 500 {
		m := r.model(t)
		d := declared()[r.below(len(declared()))]
		v := r.val(d.Sort)
		once, e := model.Set(m, entry(d.Name, v))
		twice, e2 := model.Set(once, entry(d.Name, v))
		if e != api.OK || e2 != api.OK || !slices.EqualFunc(once, twice, sameEntry) || !model.Valid(once) {
			t.Fatalf("P3.3: %v, then %v", once, twice)
		}
		expectValue(t, "P3.3", variable(d.Name, d.Sort), once, v)
	}
}

// spoilVal overwrites all memory of a value.
func spoilVal(v api.Val) {
	for _, l := range [][]int64{v.Set, v.At, v.To} {
		for k := range l {
			l[k] = 1<<62 + int64(k)
		}
	}
}

// lists returns where the lists of a value lie.
func lists(v api.Val) []*int64 {
	var l []*int64
	for _, s := range [][]int64{v.Set, v.At, v.To} {
		if cap(s) > 0 {
			l = append(l, &s[:1][0])
		}
	}
	return l
}

// spoilModel overwrites all memory of a model, and reports whether no two of its lists share any.
func spoilModel(m api.Model) bool {
	seen := map[*int64]bool{}
	apart := true
	for k, e := range m {
		for _, v := range append(slices.Clone(e.Args), e.Val) {
			for _, p := range lists(v) {
				apart = apart && !seen[p]
				seen[p] = true
			}
			spoilVal(v)
		}
		clear(e.Args)
		m[k] = api.Entry{}
	}
	return apart
}

func TestMemory(t *testing.T) {
	r := &source{state: 6}
	for range 500 {
		m := r.model(t)
		n := r.node(sorts[3+r.below(2)], 1+r.below(4))
		e := entry("new", r.val(api.SSet), r.val(api.SArr), r.val(api.SSet))
		before := fmt.Sprint(m, n, e)
		v, _ := model.Value(n, m)
		spoilVal(v)
		added, err := model.Set(m, e)
		replaced, err2 := model.Set(added, e)
		if err != api.OK || err2 != api.OK {
			t.Fatalf("P3.3: %d, %d", err, err2)
		}
		text := fmt.Sprint(added)
		if !spoilModel(replaced) || fmt.Sprint(added) != text || !spoilModel(added) || fmt.Sprint(m, n, e) != before {
			t.Fatal("P3 (R3): a result shares memory with an argument or in itself")
		}
	}
}

// any returns a value that may be wrong in any way.
func (r *source) any() api.Val {
	v := r.val(sorts[r.below(5)])
	switch r.below(12) {
	case 0:
		v.Sort = r.below(9) - 1
	case 1:
		v.Num = []int64{-1, 1, 2, most + 1, -1 << 63}[r.below(5)]
	case 2:
		v.Set = append(v.Set, r.number())
	case 3:
		v.At = append(v.At, r.number())
	case 4:
		v.To = append(v.To, r.number())
	}
	return v
}

// spoilNode changes something in a node, for the better or the worse.
func (r *source) spoilNode(n api.Node) api.Node {
	switch r.below(8) {
	case 0:
		n.Op = r.below(47) - 1
	case 1:
		n.Kids = n.Kids[:r.below(len(n.Kids)+1)]
	case 2:
		n.Sort, n.Num = r.below(8)-1, r.number()
	case 3:
		n.Name = []string{"", "true", "i", "a b"}[r.below(4)]
	default:
		if len(n.Kids) > 0 {
			n.Kids = slices.Clone(n.Kids)
			k := r.below(len(n.Kids))
			n.Kids[k] = r.spoilNode(n.Kids[k])
		}
	}
	return n
}

func callAll(n api.Node, m api.Model, e api.Entry) string {
	v, e1 := model.Value(n, m)
	b, e2 := model.Truth(n, m)
	s, e3 := model.Set(m, e)
	d, e4 := model.Default(e.Val.Sort)
	return fmt.Sprint(v, e1, b, e2, s, e3, d, e4, model.Valid(m), model.ValidVal(e.Val), model.Same(e.Val, v))
}

func TestAnyArguments(t *testing.T) {
	r := &source{state: 7}
	for range 3000 {
		n, m := r.spoilNode(r.node(sorts[r.below(5)], 1+r.below(4))), r.model(t)
		for range r.below(3) {
			m = append(m, entry([]string{"i", "x", "", "f"}[r.below(4)], r.any(), r.any()))
		}
		e := entry([]string{"i", "x", "", "f"}[r.below(4)], r.any(), r.any())
		first := callAll(n, m, e)
		if callAll(n, m, e) != first {
			t.Fatalf("P3 (R3): two calls differ: %v", n)
		}
		_, err := model.Value(n, m)
		want := logic.Check(n, 0)
		if want == api.OK && (logic.Holes(n) || !model.Valid(m)) {
			want = api.ErrForm
		}
		if err != want && !(want == api.OK && err == api.ErrLimit) {
			t.Fatalf("P3.2: the value of %v is error %d, not %d", n, err, want)
		}
	}
}

// The greatest model and formula there are, and arguments far beyond them.
func TestGreatArguments(t *testing.T) {
	var m api.Model
	for k := range 2000 {
		args := slices.Repeat([]api.Val{filled(0, 200)}, api.MaxArgs-1)
		m = append(m, entry("f", filled(0, 200), append(args, number(int64(k)))...))
	}
	if !model.Valid(m) || model.Valid(append(m, m[0])) {
		t.Error("P3.1: a model of 2000 entries")
	}
	kid := variable("a", api.SArr)
	apply := call("f", api.SArr, append(slices.Repeat([]api.Node{kid}, api.MaxArgs-1), api.Node{Op: api.Int, Num: 1999})...)
	n := node(api.Eq, apply, kid)
	for logic.Size(n)*2+1 <= api.MaxNodes {
		n = node(api.And, n, n)
	}
	full, e := model.Set(m[1:], entry("a", filled(0, 200)))
	if e != api.OK {
		t.Fatalf("P3.3: %d", e)
	}
	expectValue(t, "P3.2", n, full, truth(true))
	deep := chain(api.Neg, 1<<16-1, variable("i", api.SInt))
	expectNone(t, "P3.2", deep, full, api.ErrLimit)
	great := api.Val{Sort: api.SSet, Set: make([]int64, 1<<22)}
	if model.ValidVal(great) || !model.Same(great, great) || model.Valid(make(api.Model, 1<<16)) {
		t.Error("P3.1: values and models beyond the limits")
	}
	expectNoSet(t, nil, entry(strings.Repeat("x", 1<<20), great), api.ErrForm)
}
