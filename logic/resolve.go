package logic

import "quantale/api"

// meanings holds what the names of a raw node stand for.
type meanings struct {
	vars map[string]int
	sigs map[string]api.Sig
}

// Resolve gives a raw node its sorts.
func Resolve(n api.Node, vars []api.Decl, sigs []api.Sig) (api.Node, api.Errno) {
	if !withinLimits(n) {
		return api.Node{}, api.ErrLimit
	}
	m := meanings{vars: map[string]int{}, sigs: map[string]api.Sig{}}
	for _, d := range vars {
		keepFirst(m.vars, d.Name, d.Sort)
	}
	for _, s := range sigs {
		keepFirst(m.sigs, s.Name, s)
	}
	// A missing name anywhere counts ahead of every wrong form, wherever that is (R2): nothing else is looked at before all names are.
	if !m.allNamed(n) {
		return api.Node{}, api.ErrNone
	}
	r := m.sorted(n)
	if Check(r, 0) != api.OK || !m.argsFit(r) {
		return api.Node{}, api.ErrForm
	}
	return r, api.OK
}

// allNamed reports whether the names of all variables and applications in a node stand for something.
func (m meanings) allNamed(n api.Node) bool {
	for _, k := range walk(n) {
		if !m.named(k) {
			return false
		}
	}
	return true
}

// named reports whether a node's own name, if its Op is one of those that have meanings, stands for something, whatever its kids are.
func (m meanings) named(n api.Node) bool {
	switch n.Op {
	case api.Var:
		_, ok := m.vars[n.Name]
		return ok || m.constant(n.Name)
	case api.App:
		_, ok := m.sigs[n.Name]
		return ok
	}
	return true
}

func (m meanings) constant(name string) bool {
	s, ok := m.sigs[name]
	return ok && len(s.Args) == 0
}

// sorted returns a copy of the node with its sorts. A variable that has kids stays one, so that Check refuses it.
func (m meanings) sorted(n api.Node) api.Node {
	n.Kids = mapped(n.Kids, m.sorted)
	switch n.Op {
	case api.Var:
		sort, ok := m.vars[n.Name]
		n.Sort = sort
		if !ok && len(n.Kids) == 0 {
			n.Op = api.App
			n.Sort = m.sigs[n.Name].Sort
		}
	case api.App:
		n.Sort = m.sigs[n.Name].Sort
	case api.Eq:
		if takes(n.Kids, api.SBool, api.SBool) {
			n.Op = api.Iff
		}
	}
	return n
}

// argsFit reports whether the kids of all applications have the number and the sorts that the sigs say.
func (m meanings) argsFit(n api.Node) bool {
	for _, k := range walk(n) {
		if k.Op == api.App && !fitSig(k.Kids, m.sigs[k.Name]) {
			return false
		}
	}
	return true
}

// fitSig reports whether kids have the number and the sorts that a sig says. A sort of 0 takes every sort but SBool.
func fitSig(kids []api.Node, s api.Sig) bool {
	if len(kids) != len(s.Args) {
		return false
	}
	for i, want := range s.Args {
		sort := Sort(kids[i])
		if want != sort && (want != 0 || sort == api.SBool) {
			return false
		}
	}
	return true
}
