package logic_test

import (
	"strings"
	"testing"

	"quantale/api"
	"quantale/logic"
)

var sorts = []int{api.SInt, api.SBool, api.SObj, api.SSet, api.SArr}

func v(name string, sort int) api.Node { return api.Node{Op: api.Var, Name: name, Sort: sort} }

func i(name string) api.Node { return v(name, api.SInt) }

func b(name string) api.Node { return v(name, api.SBool) }

func o(name string) api.Node { return v(name, api.SObj) }

func s(name string) api.Node { return v(name, api.SSet) }

func a(name string) api.Node { return v(name, api.SArr) }

// raw is a variable without its sort.
func raw(name string) api.Node { return v(name, 0) }

func num(n int64) api.Node { return api.Node{Op: api.Int, Num: n} }

func op(o int, kids ...api.Node) api.Node { return api.Node{Op: o, Kids: kids} }

func app(name string, sort int, kids ...api.Node) api.Node {
	return api.Node{Op: api.App, Name: name, Sort: sort, Kids: kids}
}

func scale(n int64, kid api.Node) api.Node {
	return api.Node{Op: api.Scale, Num: n, Kids: []api.Node{kid}}
}

func hole(n int64, kids ...api.Node) api.Node {
	return api.Node{Op: api.Hole, Num: n, Kids: kids}
}

func isTrue() api.Node { return op(api.True) }

// chain is a node below n operators Neg or Not.
func chain(o, n int, kid api.Node) api.Node {
	for range n {
		kid = op(o, kid)
	}
	return kid
}

// tree joins formulas by And into a tree of few levels.
func tree(l []api.Node) api.Node {
	if len(l) == 1 {
		return l[0]
	}
	return op(api.And, tree(l[:len(l)/2]), tree(l[len(l)/2:]))
}

// sized returns a formula of a number of nodes, of few levels.
func sized(nodes int, leaf api.Node) api.Node {
	leaves := make([]api.Node, (nodes+1)/2)
	for k := range leaves {
		leaves[k] = leaf
	}
	n := tree(leaves)
	if nodes%2 == 0 {
		n = op(api.Not, n)
	}
	return n
}

// manyKids are n different variables of a sort.
func manyKids(n, sort int) []api.Node {
	l := make([]api.Node, n)
	for k := range l {
		l[k] = v("k"+strings.Repeat("i", k/10)+string(rune('0'+k%10)), sort)
	}
	return l
}

func expectCheck(t *testing.T, promise string, n api.Node, sort int, want api.Errno) {
	t.Helper()
	if e := logic.Check(n, sort); e != want {
		t.Errorf("%s: Check(%v, %d) is %d, not %d", promise, n, sort, e, want)
	}
}

func expectNode(t *testing.T, promise string, got, want api.Node) {
	t.Helper()
	if !logic.Equal(got, want) {
		t.Errorf("%s: got %v, not %v", promise, got, want)
	}
}

func expectNodes(t *testing.T, promise string, got, want []api.Node) {
	t.Helper()
	if len(got) != len(want) {
		t.Errorf("%s: got %v, not %v", promise, got, want)
		return
	}
	for k := range got {
		expectNode(t, promise, got[k], want[k])
	}
}
