package formula_test

import (
	"strings"
	"testing"

	"quantale/api"
	"quantale/formula"
	"quantale/logic"
)

func v(name string) api.Node { return api.Node{Op: api.Var, Name: name} }

func num(n int64) api.Node { return api.Node{Op: api.Int, Num: n} }

func op(o int, kids ...api.Node) api.Node { return api.Node{Op: o, Kids: kids} }

func app(name string, kids ...api.Node) api.Node {
	return api.Node{Op: api.App, Name: name, Kids: kids}
}

func scale(n int64, kid api.Node) api.Node {
	return api.Node{Op: api.Scale, Num: n, Kids: []api.Node{kid}}
}

func neg(kid api.Node) api.Node { return op(api.Neg, kid) }

func not(kid api.Node) api.Node { return op(api.Not, kid) }

func isTrue() api.Node { return op(api.True) }

// many is a list of n items, with a sign in between.
func many(n int, item, sign string) string {
	return strings.TrimSuffix(strings.Repeat(item+sign, n), sign)
}

// shut is an inner text between n texts that open it and n that close it.
func shut(n int, open, inner, shut string) string {
	return strings.Repeat(open, n) + inner + strings.Repeat(shut, n)
}

// tree joins formulas by And into a tree of few levels.
func tree(l []api.Node) api.Node {
	if len(l) == 1 {
		return l[0]
	}
	return op(api.And, tree(l[:len(l)/2]), tree(l[len(l)/2:]))
}

// sized returns a node of an odd number of nodes, of few levels.
func sized(nodes int, leaf api.Node) api.Node {
	leaves := make([]api.Node, (nodes+1)/2)
	for k := range leaves {
		leaves[k] = leaf
	}
	return tree(leaves)
}

// chain is a node below n operators of one kid.
func chain(o, n int, kid api.Node) api.Node {
	for range n {
		kid = op(o, kid)
	}
	return kid
}

// unsorted returns a copy of a node with all sorts 0.
func unsorted(n api.Node) api.Node {
	kids := n.Kids
	n.Sort, n.Kids = 0, nil
	for _, k := range kids {
		n.Kids = append(n.Kids, unsorted(k))
	}
	return n
}

func expectParse(t *testing.T, text string, want api.Node) {
	t.Helper()
	n, at, e := formula.Parse(text)
	if e != api.OK || at != 0 || !logic.Equal(n, want) {
		t.Errorf("P2.1: Parse(%q) is %v, %d, %d, not %v", text, n, at, e, want)
	}
}

// expectFault expects that Parse refuses a text at an offset.
func expectFault(t *testing.T, text string, offset int) {
	t.Helper()
	n, at, e := formula.Parse(text)
	if e != api.ErrSyntax || at != offset || !logic.Equal(n, api.Node{}) {
		t.Errorf("P2.1: Parse(%q) is %v, %d, %d, not ErrSyntax at %d", text, n, at, e, offset)
	}
}

func expectTooMuch(t *testing.T, what, text string) {
	t.Helper()
	n, at, e := formula.Parse(text)
	if e != api.ErrLimit || at != 0 || !logic.Equal(n, api.Node{}) {
		t.Errorf("P2.1: %s: Parse is %v, %d, %d, not ErrLimit", what, n, at, e)
	}
}

func expectParsed(t *testing.T, what, text string) {
	t.Helper()
	if _, at, e := formula.Parse(text); e != api.OK || at != 0 {
		t.Errorf("P2.1: %s: Parse is %d, %d", what, at, e)
	}
}

func expectPrint(t *testing.T, n api.Node, want string) {
	t.Helper()
	if got, e := formula.Print(n); e != api.OK || got != want {
		t.Errorf("P2.2: Print(%v) is %q, %d, not %q", n, got, e, want)
	}
}

func expectNoPrint(t *testing.T, n api.Node, want api.Errno) {
	t.Helper()
	if got, e := formula.Print(n); e != want || got != "" {
		t.Errorf("P2.2: Print(%v) is %q, %d, not error %d", n, got, e, want)
	}
}
