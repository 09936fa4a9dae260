package logic

import "quantale/api"

// copyOf returns a node that shares no memory with n.
func copyOf(n api.Node) api.Node {
	n.Kids = copies(n.Kids)
	return n
}

func copies(l []api.Node) []api.Node {
	return mapped(l, copyOf)
}

// mapped returns a new list of what f makes of each node.
func mapped(l []api.Node, f func(api.Node) api.Node) []api.Node {
	if l == nil {
		return nil
	}
	r := make([]api.Node, len(l))
	for i, n := range l {
		r[i] = f(n)
	}
	return r
}

// keepFirst enters what a name stands for, unless the name has something already: the first entry of a name counts.
func keepFirst[T any](m map[string]T, name string, x T) {
	if _, ok := m[name]; !ok {
		m[name] = x
	}
}

// Subst replaces every variable of a name, of any sort, by a node.
func Subst(n api.Node, name string, with api.Node) api.Node {
	return SubstAll(n, []string{name}, []api.Node{with})
}

// SubstAll replaces the variables of names at once: names[i] by with[i].
func SubstAll(n api.Node, names []string, with []api.Node) api.Node {
	stand := map[string]api.Node{}
	for i := range min(len(names), len(with)) {
		keepFirst(stand, names[i], with[i])
	}
	return replace(n, stand)
}

func replace(n api.Node, stand map[string]api.Node) api.Node {
	if n.Op == api.Var {
		if w, ok := stand[n.Name]; ok {
			return copyOf(w)
		}
	}
	n.Kids = mapped(n.Kids, func(k api.Node) api.Node { return replace(k, stand) })
	return n
}

// Conj joins formulas by And from the left; without any it is True.
func Conj(l []api.Node) api.Node {
	if len(l) == 0 {
		return api.Node{Op: api.True}
	}
	r := copyOf(l[0])
	for _, n := range l[1:] {
		r = api.Node{Op: api.And, Kids: []api.Node{r, copyOf(n)}}
	}
	return r
}

// Conjuncts returns the parts that And joins, from left to right, without those that are True.
func Conjuncts(n api.Node) []api.Node {
	var list []api.Node
	for m := range parts(n) {
		if m.Op != api.True {
			list = append(list, copyOf(m))
		}
	}
	return list
}
