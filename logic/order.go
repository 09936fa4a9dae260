package logic

import (
	"cmp"
	"slices"

	"quantale/api"
)

// Compare orders nodes by Op, Sort, Name, Num, the number of kids, then the kids in order.
func Compare(a, b api.Node) int {
	switch {
	case a.Op != b.Op:
		return cmp.Compare(a.Op, b.Op)
	case a.Sort != b.Sort:
		return cmp.Compare(a.Sort, b.Sort)
	case a.Name != b.Name:
		return cmp.Compare(a.Name, b.Name)
	case a.Num != b.Num:
		return cmp.Compare(a.Num, b.Num)
	case len(a.Kids) != len(b.Kids):
		return cmp.Compare(len(a.Kids), len(b.Kids))
	}
	for i := range a.Kids {
		if c := Compare(a.Kids[i], b.Kids[i]); c != 0 {
			return c
		}
	}
	return 0
}

// Equal reports whether two nodes are the same in all fields.
func Equal(a, b api.Node) bool {
	return Compare(a, b) == 0
}

// insert puts x in its place in a sorted list, unless it stands there already.
func insert[T any](list []T, x T, compare func(a, b T) int) []T {
	at, found := slices.BinarySearchFunc(list, x, compare)
	if found {
		return list
	}
	return slices.Insert(list, at, x)
}

func compareDecls(a, b api.Decl) int {
	return cmp.Or(cmp.Compare(a.Name, b.Name), cmp.Compare(a.Sort, b.Sort))
}

// Vars returns the variables, sorted by name, then sort, each once.
func Vars(n api.Node) []api.Decl {
	var list []api.Decl
	for _, m := range walk(n) {
		if m.Op == api.Var {
			list = insert(list, api.Decl{Name: m.Name, Sort: m.Sort}, compareDecls)
		}
	}
	return list
}

// Apps returns the applications, sorted by Compare, each once.
func Apps(n api.Node) []api.Node {
	var list []api.Node
	for _, m := range walk(n) {
		if m.Op == api.App {
			list = insert(list, m, Compare)
		}
	}
	return copies(list)
}
