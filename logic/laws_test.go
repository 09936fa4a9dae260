package logic_test

import (
	"fmt"
	"slices"
	"testing"

	"quantale/api"
	"quantale/logic"
)

// source makes nodes by a fixed sequence of numbers.
type source struct{ state uint64 }

func (r *source) below(n int) int {
	r.state = r.state*6364136223846793005 + 1442695040888963407
	return int(r.state>>33) % n
}

// any returns a node that may be wrong in any way.
func (r *source) any(levels int) api.Node {
	names := []string{"", "x", "y", "f", "true", "a b", "verylongnamebeyondalllimits"}
	n := api.Node{Op: r.below(47) - 1}
	if r.below(3) > 0 {
		n.Op = []int{api.Var, api.App, api.And, api.Eq, api.True, api.Ite, api.Hole}[r.below(7)]
	}
	if r.below(2) == 0 {
		n.Name, n.Sort = names[r.below(len(names))], r.below(8)-1
	}
	if r.below(4) == 0 {
		n.Num = int64(r.below(1000)-500) << r.below(50)
	}
	if levels > 1 {
		for range r.below(4) {
			n.Kids = append(n.Kids, r.any(levels-1))
		}
	}
	return n
}

// raw returns a raw node that the names of resolve_test.go make well sorted.
func (r *source) raw(sort, levels int) api.Node {
	at := func(s int) api.Node { return r.raw(s, levels-1) }
	if levels == 1 {
		l := [][]api.Node{nil, {raw("x"), raw("y"), num(int64(r.below(9))), raw("zero")}, {raw("p"), raw("q"), isTrue(), raw("yes")},
			{raw("l"), raw("nil"), call("nil")}, {raw("s"), op(api.Empty)}, {raw("a")}}[sort]
		return l[r.below(len(l))]
	}
	switch sort {
	case api.SInt:
		return []func() api.Node{
			func() api.Node { return op(api.Add, at(1), at(1)) }, func() api.Node { return scale(-3, at(1)) },
			func() api.Node { return op(api.Sel, at(5), at(1)) }, func() api.Node { return op(api.Len, at(5)) },
			func() api.Node { return call("len", at(3)) }, func() api.Node { return op(api.Ite, at(2), at(1), at(1)) },
		}[r.below(6)]()
	case api.SBool:
		s := []int{1, 3, 4, 5, 2}[r.below(5)]
		return []func() api.Node{
			func() api.Node { return op(api.And, at(2), at(2)) }, func() api.Node { return op(api.Imp, at(2), at(2)) },
			func() api.Node { return op(api.Eq, at(s), at(s)) }, func() api.Node { return op(api.Mem, at(1), at(4)) },
			func() api.Node { return call("pred", at(2)) }, func() api.Node { return hole(1, at(s), at(1)) },
		}[r.below(6)]()
	case api.SObj:
		return call("any", at([]int{1, 3, 4, 5}[r.below(4)]), at(1))
	case api.SSet:
		return op(api.Minus, op(api.Sing, r.raw(1, max(1, levels-2))), at(4))
	}
	return op(api.Sto, at(5), at(1), at(1))
}

func TestOrderLaws(t *testing.T) {
	r := &source{state: 1}
	var l []api.Node
	for range 120 {
		l = append(l, r.any(3))
	}
	for _, x := range l {
		for _, y := range l {
			c := logic.Compare(x, y)
			if c < -1 || c > 1 || logic.Compare(y, x) != -c || logic.Equal(x, y) != (c == 0) {
				t.Fatalf("P1.7: %v and %v: not antisymmetric", x, y)
			}
			for _, z := range l {
				if c <= 0 && logic.Compare(y, z) <= 0 && logic.Compare(x, z) > 0 {
					t.Fatalf("P1.7: %v, %v, %v: not transitive", x, y, z)
				}
			}
		}
	}
}

func TestSubstLaws(t *testing.T) {
	r := &source{state: 2}
	for range 2000 {
		sort := sorts[r.below(5)]
		n, e := logic.Resolve(r.raw(sort, 1+r.below(4)), declared(), signed())
		with, e2 := logic.Resolve(r.raw(api.SInt, 1+r.below(3)), declared(), signed())
		if e != api.OK || e2 != api.OK {
			t.Fatalf("P1.6: %d %d", e, e2)
		}
		expectCheck(t, "P1.7", n, sort, api.OK)
		expectNode(t, "P1.7", logic.Subst(n, "w", with), n)
		got := logic.Subst(n, "x", with)
		expectCheck(t, "P1.7", got, sort, api.OK)
		var want []api.Decl
		for _, d := range logic.Vars(n) {
			if d.Name == "x" {
				want = append(want, logic.Vars(with)...)
			} else {
				want = append(want, d)
			}
		}
		slices.SortFunc(want, func(a, b api.Decl) int { return logic.Compare(v(a.Name, a.Sort), v(b.Name, b.Sort)) })
		slices.SortStableFunc(want, func(a, b api.Decl) int { return slices.Compare([]byte(a.Name), []byte(b.Name)) })
		if want = slices.Compact(want); !slices.Equal(logic.Vars(got), want) {
			t.Fatalf("P1.7: Vars of Subst are %v, not %v", logic.Vars(got), want)
		}
	}
}

func TestConjLaws(t *testing.T) {
	r := &source{state: 3}
	for range 1000 {
		var l, want []api.Node
		for range r.below(6) {
			n, e := logic.Resolve(r.raw(api.SBool, 1+r.below(4)), declared(), signed())
			if e != api.OK {
				t.Fatalf("P1.6: %d", e)
			}
			l = append(l, n)
			want = append(want, logic.Conjuncts(n)...)
		}
		expectNodes(t, "P1.7", logic.Conjuncts(logic.Conj(l)), want)
	}
}

// missing reports whether a name in a node is none of those of resolve_test.go, by the words of the chapter.
func missing(n api.Node) bool {
	isVar := slices.ContainsFunc(declared(), func(d api.Decl) bool { return d.Name == n.Name })
	at := slices.IndexFunc(signed(), func(s api.Sig) bool { return s.Name == n.Name })
	if n.Op == api.Var && !isVar && (at < 0 || len(signed()[at].Args) > 0) || n.Op == api.App && at < 0 {
		return true
	}
	return slices.ContainsFunc(n.Kids, missing)
}

// spoilNames changes some names and numbers of kids of a raw node.
func (r *source) spoilNames(n api.Node) api.Node {
	kids := n.Kids
	n.Kids = nil
	for _, k := range kids {
		n.Kids = append(n.Kids, r.spoilNames(k))
	}
	switch {
	case r.below(12) == 0 && (n.Op == api.Var || n.Op == api.App):
		n.Name = []string{"w", "late", "zero", "yes", "p"}[r.below(5)]
	case r.below(12) == 0 && n.Op == api.App:
		n.Kids = append(n.Kids, raw("x"))
	case r.below(12) == 0 && len(n.Kids) > 0:
		n.Kids = n.Kids[1:]
	}
	return n
}

func TestResolveErrorLaws(t *testing.T) {
	r := &source{state: 7}
	seen := map[api.Errno]int{}
	for range 4000 {
		n := r.spoilNames(r.raw(sorts[r.below(5)], 1+r.below(4)))
		_, e := logic.Resolve(n, declared(), signed())
		seen[e]++
		if (e == api.ErrNone) != missing(n) {
			t.Fatalf("P1.6, R2: Resolve(%v) is %d", n, e)
		}
	}
	if seen[api.OK] < 100 || seen[api.ErrNone] < 100 || seen[api.ErrForm] < 100 {
		t.Errorf("too few of a kind: %v", seen)
	}
}

func TestResolveLaws(t *testing.T) {
	r := &source{state: 4}
	good := 0
	for range 20000 {
		n := r.any(3)
		got, e := logic.Resolve(n, declared(), signed())
		if (e == api.ErrNone) != missing(n) {
			t.Errorf("P1.6, R2: Resolve(%v) is %d", n, e)
		}
		switch {
		case e == api.OK:
			good++
			expectCheck(t, "P1.7", got, 0, api.OK)
			again, e := logic.Resolve(got, declared(), signed())
			if e != api.OK || !logic.Equal(again, got) {
				t.Errorf("P1.6: resolving %v again gives %v, %d", got, again, e)
			}
		case e != api.ErrNone && e != api.ErrForm || !logic.Equal(got, api.Node{}):
			t.Errorf("P1.6, R2: Resolve(%v) is %v, %d", n, got, e)
		}
	}
	if good < 100 {
		t.Errorf("only %d nodes were resolved", good)
	}
}

// memory collects where nodes lie.
type memory map[*api.Node]bool

// add reports whether none of the nodes lies where one that is added already does.
func (m memory) add(l []api.Node) bool {
	ok := true
	for k := range l {
		ok = ok && !m[&l[k]]
		m[&l[k]] = true
		ok = m.add(l[k].Kids) && ok
	}
	return ok
}

func TestMemory(t *testing.T) {
	r := &source{state: 5}
	for range 500 {
		n, with := r.any(4), r.any(3)
		fx := app("f", 1, app("f", 1, i("x")), i("x"))
		l := []api.Node{n, with, fx, op(api.Neg, op(api.Neg, raw("x")))}
		resolved, e := logic.Resolve(l[3], declared(), signed())
		if e != api.OK {
			t.Fatalf("P1.6: %d", e)
		}
		before := fmt.Sprint(l)
		for k, got := range [][]api.Node{logic.Apps(n), logic.Apps(fx), {logic.Subst(n, "x", with)}, {logic.Subst(fx, "x", with)}, {logic.Subst(fx, "w", with)},
			{logic.SubstAll(fx, []string{"x", "y"}, l[1:3])}, {logic.Conj(l)}, {logic.Conj(l[2:3])}, {logic.Conj([]api.Node{fx, fx})},
			logic.Conjuncts(n), logic.Conjuncts(fx), logic.Conjuncts(op(api.And, fx, fx)), {resolved}} {
			m := memory{}
			m.add(l)
			if !m.add(got) {
				t.Fatalf("P1 (R3): result %d shares memory", k)
			}
			spoil(got)
			if fmt.Sprint(l) != before {
				t.Fatalf("P1 (R3): call %d changes an argument", k)
			}
		}
	}
}

func spoil(l []api.Node) {
	for k := range l {
		spoil(l[k].Kids)
		l[k] = api.Node{Op: 55, Name: "spoilt"}
	}
}

// callAll calls every function and returns all results as a text.
func callAll(m, n api.Node) string {
	names := []string{"x", "", "x", "f"}
	l := []api.Node{m, n, m}
	r, e := logic.Resolve(n, []api.Decl{{Name: "x", Sort: 1}, {Name: "", Sort: 7}}, []api.Sig{{Name: "f", Args: []int{9, -1}, Sort: 77}, {Name: "y"}})
	return fmt.Sprint(logic.Name(n.Name), logic.Sort(n), logic.Check(n, 0), logic.Check(n, n.Sort), logic.Check(n, api.SBool), logic.Uniform(n),
		logic.Size(n), logic.Levels(n), logic.Compare(m, n), logic.Equal(m, n), logic.Vars(n), logic.Apps(n), logic.Subst(n, "x", m),
		logic.SubstAll(n, names, l), logic.Conj(l), logic.Conjuncts(n), logic.Holes(n), r, e)
}

func TestAnyArguments(t *testing.T) {
	r := &source{state: 6}
	for range 3000 {
		m, n := r.any(4), r.any(4)
		if first := callAll(m, n); callAll(m, n) != first {
			t.Fatalf("P1 (R3): %v: two calls differ", n)
		}
		for _, n := range []api.Node{m, n} {
			size, levels := 1, 1
			for _, k := range n.Kids {
				size += logic.Size(k)
				levels = max(levels, 1+logic.Levels(k))
			}
			if logic.Size(n) != size || logic.Levels(n) != levels {
				t.Fatalf("P1.1: Size and Levels of %v", n)
			}
		}
	}
}

// The promises hold for up to 2^16 levels.
func TestDeepArguments(t *testing.T) {
	const levels = 1 << 16
	for _, o := range []int{api.Neg, api.And, api.Ite, api.Var, 99} {
		n := chain(o, levels-1, i("x"))
		if logic.Size(n) != levels || logic.Levels(n) != levels || logic.Holes(n) || logic.Apps(n) != nil || !logic.Equal(n, logic.Subst(n, "y", n)) {
			t.Errorf("P1 (R1): %d", o)
		}
		expectCheck(t, "P1 (R1)", n, 0, api.ErrLimit)
		if _, e := logic.Resolve(n, nil, nil); e != api.ErrLimit || len(logic.Vars(n)) == 0 || len(logic.Conjuncts(n)) != 1 || logic.Sort(n) < 0 {
			t.Errorf("P1 (R1): %d", o)
		}
		logic.Uniform(n)
	}
	l := make([]api.Node, levels)
	for k := range l {
		l[k] = b("p")
	}
	if got := logic.Conjuncts(logic.Conj(l)); len(got) != levels {
		t.Errorf("P1.5: %d parts", len(got))
	}
}
