package logic

import "quantale/api"

// meanings holds what the names of a raw node stand for.
type meanings struct {
	vars map[string]int
	sigs map[string]api.Sig
}

// Resolve gives a raw node its sorts.
func Resolve(n api.Node, vars []api.Decl, sigs []api.Sig) (api.Node, api.Errno) {
	if !withinLimits(n) {
		return api.Node{}, api.ErrLimit
	}
	m := meanings{vars: map[string]int{}, sigs: map[string]api.Sig{}}
	for _, d := range vars {
		keepFirst(m.vars, d.Name, d.Sort)
	}
	for _, s := range sigs {
		keepFirst(m.sigs, s.Name, s)
	}
	for _, k := range walk(n) {
		if e := m.look(k); e != api.OK {
			return api.Node{}, e
		}
	}
	r := m.sorted(n)
	if Check(r, 0) != api.OK || !m.argsFit(r) {
		return api.Node{}, api.ErrForm
	}
	return r, api.OK
}

// look returns the error of a node's name, or of the number of its kids, whatever its kids are.
func (m meanings) look(n api.Node) api.Errno {
	switch n.Op {
	case api.Var:
		if _, ok := m.vars[n.Name]; !ok && !m.constant(n.Name) {
			return api.ErrNone
		}
	case api.App:
		s, ok := m.sigs[n.Name]
		if !ok {
			return api.ErrNone
		}
		if len(s.Args) != len(n.Kids) {
			return api.ErrForm
		}
	}
	return api.OK
}

func (m meanings) constant(name string) bool {
	s, ok := m.sigs[name]
	return ok && len(s.Args) == 0
}

// sorted returns a copy of the node with its sorts. A variable that has kids stays one, so that Check refuses it.
func (m meanings) sorted(n api.Node) api.Node {
	n.Kids = mapped(n.Kids, m.sorted)
	switch n.Op {
	case api.Var:
		sort, ok := m.vars[n.Name]
		n.Sort = sort
		if !ok && len(n.Kids) == 0 {
			n.Op = api.App
			n.Sort = m.sigs[n.Name].Sort
		}
	case api.App:
		n.Sort = m.sigs[n.Name].Sort
	case api.Eq:
		if takes(n.Kids, api.SBool, api.SBool) {
			n.Op = api.Iff
		}
	}
	return n
}

// argsFit reports whether the kids of all applications have the sorts that the sigs say. A sort of 0 takes every sort but SBool.
func (m meanings) argsFit(n api.Node) bool {
	for _, k := range walk(n) {
		if k.Op != api.App {
			continue
		}
		for i, want := range m.sigs[k.Name].Args {
			sort := Sort(k.Kids[i])
			if want != sort && (want != 0 || sort == api.SBool) {
				return false
			}
		}
	}
	return true
}
