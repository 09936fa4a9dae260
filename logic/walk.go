package logic

import (
	"iter"

	"quantale/api"
)

// walk goes through a node and all that is in it, in preorder, with the level of each (1 for the node itself).
func walk(n api.Node) iter.Seq2[int, api.Node] {
	return func(yield func(int, api.Node) bool) {
		visit(n, 1, yield)
	}
}

// visit is a plain recursion and not a nest of iterators: a node is handed out once, however deep it lies.
func visit(n api.Node, level int, yield func(int, api.Node) bool) bool {
	if !yield(level, n) {
		return false
	}
	for _, k := range n.Kids {
		if !visit(k, level+1, yield) {
			return false
		}
	}
	return true
}

// parts goes through what And joins in a formula, from left to right.
func parts(n api.Node) iter.Seq[api.Node] {
	return func(yield func(api.Node) bool) {
		visitParts(n, yield)
	}
}

func visitParts(n api.Node, yield func(api.Node) bool) bool {
	if n.Op != api.And {
		return yield(n)
	}
	for _, k := range n.Kids {
		if !visitParts(k, yield) {
			return false
		}
	}
	return true
}

// Size returns the number of nodes.
func Size(n api.Node) int {
	size := 0
	for range walk(n) {
		size++
	}
	return size
}

// Levels returns the number of levels: 1 for a node without kids.
func Levels(n api.Node) int {
	most := 0
	for level := range walk(n) {
		most = max(most, level)
	}
	return most
}

// Holes reports whether a Hole occurs.
func Holes(n api.Node) bool {
	for _, m := range walk(n) {
		if m.Op == api.Hole {
			return true
		}
	}
	return false
}
