package omega_test

import (
	"slices"
	"testing"

	"quantale/api"
	"quantale/linear"
	"quantale/logic"
	"quantale/omega"
)

// great is the greatest amount of a number of a form.
const great = 1 << 53

var x, y, z = variable("x", api.SInt), variable("y", api.SInt), variable("z", api.SInt)

func variable(name string, sort int) api.Node { return api.Node{Op: api.Var, Name: name, Sort: sort} }

func node(op int, kids ...api.Node) api.Node { return api.Node{Op: op, Kids: kids} }

func call(name string, sort int, kids ...api.Node) api.Node {
	return api.Node{Op: api.App, Name: name, Sort: sort, Kids: kids}
}

// doubled is a tree of Add with 2^levels leaves.
func doubled(levels int, leaf api.Node) api.Node {
	for range levels {
		leaf = node(api.Add, leaf, leaf)
	}
	return leaf
}

// letters are n atoms in their order.
func letters(n int) []api.Node {
	var l []api.Node
	for k := range n {
		l = append(l, variable(string([]byte{'q', byte('a' + k/676), byte('a' + k/26%26), byte('a' + k%26)}), api.SInt))
	}
	return l
}

func mono(coef int64, atom api.Node) api.Mono { return api.Mono{Coef: coef, Atom: atom} }

func lin(rest int64, monos ...api.Mono) api.Lin { return api.Lin{Monos: monos, Const: rest} }

// over is a form with coefficients of x, y, z.
func over(rest int64, coefs ...int64) api.Lin {
	f := lin(rest)
	for k, c := range coefs {
		if c != 0 {
			f.Monos = append(f.Monos, mono(c, []api.Node{x, y, z}[k]))
		}
	}
	return f
}

// zero says that a form is zero.
func zero(f api.Lin) api.Con { return api.Con{Form: f, Rel: 0} }

// atMost says that a form is at most zero.
func atMost(f api.Lin) api.Con { return api.Con{Form: f, Rel: 1} }

func list(cons ...api.Con) []api.Con { return cons }

// with adds a constraint to others.
func with(cons []api.Con, c ...api.Con) []api.Con { return append(slices.Clone(cons), c...) }

// shifted is a*f + n.
func shifted(t *testing.T, f api.Lin, a, n int64) api.Lin {
	t.Helper()
	g, e := linear.Add(f, lin(1), a, n)
	if e != api.OK {
		t.Fatalf("%d*%v + %d: %d", a, f, n, e)
	}
	return g
}

func sameNodes(a, b []api.Node) bool { return slices.EqualFunc(a, b, logic.Equal) }

func zeroDeriv(d api.Deriv) bool {
	return len(d.Steps) == 0 && !d.Split && len(d.Form.Monos) == 0 && d.Form.Const == 0 && len(d.Kids) == 0
}

// answers counts what Solve has said.
type answers struct{ sat, unsat, budget int }

// ask returns whether constraints have a solution, and checks the witness.
func (a *answers) ask(t *testing.T, cons []api.Con) (atoms []api.Node, nums []int64, sat bool, e api.Errno) {
	t.Helper()
	atoms, nums, d, sat, e := omega.Solve(cons)
	switch {
	case e == api.ErrBudget:
		a.budget++
		if omega.Plain(cons) || omega.Small(cons) {
			t.Fatalf("P5.2: ErrBudget for %v", cons)
		}
		if sat || len(atoms)+len(nums) > 0 || !zeroDeriv(d) {
			t.Fatalf("R2: results with ErrBudget for %v", cons)
		}
	case e != api.OK:
		t.Fatalf("P5.2: error %d for %d constraints", e, len(cons))
	case sat:
		a.sat++
		if ok, e := omega.Holds(cons, atoms, nums); !ok || e != api.OK || !holds(cons, atoms, nums) {
			t.Fatalf("P5.2: %v, %v is no solution of %v", atoms, nums, cons)
		}
		if !sameNodes(atoms, omega.Atoms(cons)) || !zeroDeriv(d) {
			t.Fatalf("P5.2: atoms %v, derivation %v with a solution of %v", atoms, d, cons)
		}
	default:
		a.unsat++
		if ok, e := linear.Refutes(cons, d); !ok || e != api.OK {
			t.Fatalf("P5.2: %v does not refute %v: %d", d, cons, e)
		}
		if len(atoms)+len(nums) > 0 {
			t.Fatalf("P5.2: %v, %v with a derivation for %v", atoms, nums, cons)
		}
	}
	return atoms, nums, sat, e
}

// holds is Holds without the package that is tested, for small numbers.
func holds(cons []api.Con, atoms []api.Node, nums []int64) bool {
	for _, c := range cons {
		if v := at(c.Form, atoms, nums); v > 0 || v < 0 && c.Rel == 0 {
			return false
		}
	}
	return true
}

// at is the value of a form with small numbers.
func at(f api.Lin, atoms []api.Node, nums []int64) int64 {
	v := f.Const
	for _, m := range f.Monos {
		if k := slices.IndexFunc(atoms, func(n api.Node) bool { return logic.Equal(n, m.Atom) }); k >= 0 {
			v += m.Coef * nums[k]
		}
	}
	return v
}

// spoilNode writes over all that a node has in memory.
func spoilNode(n api.Node) {
	for i := range n.Kids {
		spoilNode(n.Kids[i])
		n.Kids[i] = api.Node{Op: 99}
	}
}

// spoilForm writes over all that a form has in memory.
func spoilForm(f api.Lin) {
	for i := range f.Monos {
		spoilNode(f.Monos[i].Atom)
		f.Monos[i] = mono(77, node(99))
	}
}

// spoilDeriv writes over all that a derivation has in memory.
func spoilDeriv(d api.Deriv) {
	spoilForm(d.Form)
	for _, s := range d.Steps {
		for i := range s {
			s[i] = api.Mult{Index: -1, Coef: 99}
		}
	}
	for i := range d.Kids {
		spoilDeriv(d.Kids[i])
		d.Kids[i] = api.Deriv{}
	}
	for i := range d.Steps {
		d.Steps[i] = nil
	}
}
