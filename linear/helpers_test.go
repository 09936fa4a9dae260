package linear_test

import (
	"slices"
	"testing"

	"quantale/api"
	"quantale/formula"
	"quantale/logic"
)

// great is the greatest amount of a number of a form.
const great = 1 << 53

var x, y, z = variable("x", api.SInt), variable("y", api.SInt), variable("z", api.SInt)

// u is an object.
var u = variable("u", api.SObj)

func variable(name string, sort int) api.Node { return api.Node{Op: api.Var, Name: name, Sort: sort} }

func num(n int64) api.Node { return api.Node{Op: api.Int, Num: n} }

func node(op int, kids ...api.Node) api.Node { return api.Node{Op: op, Kids: kids} }

func call(name string, sort int, kids ...api.Node) api.Node {
	return api.Node{Op: api.App, Name: name, Sort: sort, Kids: kids}
}

func scale(n int64, kid api.Node) api.Node {
	return api.Node{Op: api.Scale, Num: n, Kids: []api.Node{kid}}
}

// chain is a node below n operators of one kid.
func chain(op, n int, kid api.Node) api.Node {
	for range n {
		kid = node(op, kid)
	}
	return kid
}

// doubled is a tree of Add with 2^levels leaves.
func doubled(levels int, leaf api.Node) api.Node {
	for range levels {
		leaf = node(api.Add, leaf, leaf)
	}
	return leaf
}

func mono(coef int64, atom api.Node) api.Mono { return api.Mono{Coef: coef, Atom: atom} }

func lin(rest int64, monos ...api.Mono) api.Lin { return api.Lin{Monos: monos, Const: rest} }

// zero says that a form is zero.
func zero(f api.Lin) api.Con { return api.Con{Form: f, Rel: 0} }

// atMost says that a form is at most zero.
func atMost(f api.Lin) api.Con { return api.Con{Form: f, Rel: 1} }

func mult(index int, coef int64) api.Mult { return api.Mult{Index: index, Coef: coef} }

// variables are n atoms in their order.
func variables(n int) []api.Node {
	var l []api.Node
	for k := range n {
		l = append(l, variable("v"+string([]byte{byte('0' + k/1000), byte('0' + k/100%10), byte('0' + k/10%10), byte('0' + k%10)}), api.SInt))
	}
	return l
}

// wide is a form of n monomials.
func wide(n int, coef, rest int64) api.Lin {
	f := lin(rest)
	for _, v := range variables(n) {
		f.Monos = append(f.Monos, mono(coef, v))
	}
	return f
}

func declared() []api.Decl {
	return []api.Decl{{Name: "x", Sort: api.SInt}, {Name: "y", Sort: api.SInt}, {Name: "z", Sort: api.SInt},
		{Name: "u", Sort: api.SObj}, {Name: "w", Sort: api.SObj}, {Name: "p", Sort: api.SBool}, {Name: "s", Sort: api.SSet}, {Name: "a", Sort: api.SArr}}
}

func signed() []api.Sig {
	return []api.Sig{{Name: "f", Args: []int{api.SInt}, Sort: api.SInt}, {Name: "len", Args: []int{api.SObj}, Sort: api.SInt}, {Name: "nil", Sort: api.SObj},
		{Name: "cons", Args: []int{api.SInt, api.SObj}, Sort: api.SObj}, {Name: "is", Args: []int{api.SObj}, Sort: api.SBool}, {Name: "of", Args: []int{api.SBool}, Sort: api.SInt}}
}

// read returns the node of a text over the names above.
func read(t *testing.T, text string) api.Node {
	t.Helper()
	n, e := formula.Read(text, declared(), signed())
	if e != api.OK {
		t.Fatalf("%q is no text of a node: %d", text, e)
	}
	return n
}

// same compares forms field by field, without the package that is tested.
func same(a, b api.Lin) bool {
	return a.Const == b.Const && slices.EqualFunc(a.Monos, b.Monos, func(m, n api.Mono) bool {
		return m.Coef == n.Coef && logic.Equal(m.Atom, n.Atom)
	})
}

func sameCon(a, b api.Con) bool { return a.Rel == b.Rel && same(a.Form, b.Form) }

// spoilNode writes over all that a node has in memory.
func spoilNode(n api.Node) {
	for i := range n.Kids {
		spoilNode(n.Kids[i])
		n.Kids[i] = api.Node{Op: 99}
	}
}

// spoil writes over all that a form has in memory.
func spoil(f api.Lin) {
	for i := range f.Monos {
		spoilNode(f.Monos[i].Atom)
		f.Monos[i] = mono(77, node(99))
	}
}

func spoilCons(l []api.Con) {
	for i := range l {
		spoil(l[i].Form)
		l[i] = api.Con{Rel: 9}
	}
}
