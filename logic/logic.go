// Package logic is layer 1: the terms and formulas of the logic, their sorts, order and substitution (doc/01-logic.md).
package logic

import "quantale/api"

// maxHoleKids is the greatest number of kids of a Hole.
const maxHoleKids = 40

// Name reports whether a string is a name in formulas.
func Name(s string) bool {
	if s == "" || len(s) > api.MaxLong || !letter(s[0]) {
		return false
	}
	for i := range len(s) {
		if c := s[i]; !letter(c) && !digit(c) && c != '.' {
			return false
		}
	}
	return !word(s)
}

func letter(c byte) bool {
	return 'a' <= c && c <= 'z' || 'A' <= c && c <= 'Z'
}

func digit(c byte) bool {
	return '0' <= c && c <= '9'
}

// word reports whether a string is a word of formulas, which is no name.
func word(s string) bool {
	switch s {
	case "true", "false", "in", "sub", "empty", "sing", "cup", "cap", "diff", "sel", "sto", "vlen", "ite":
		return true
	}
	return false
}

// Sort returns the sort of a node, 0 if it has none.
func Sort(n api.Node) int {
	for n.Op == api.Ite {
		if len(n.Kids) < 2 {
			return 0
		}
		n = n.Kids[1]
	}
	switch n.Op {
	case api.Var, api.App:
		return n.Sort
	case api.Int, api.Add, api.Sub, api.Neg, api.Scale, api.Sel, api.Len:
		return api.SInt
	case api.Empty, api.Sing, api.Cup, api.Cap, api.Minus:
		return api.SSet
	case api.Sto:
		return api.SArr
	case api.True, api.False, api.Not, api.And, api.Or, api.Imp, api.Iff,
		api.Eq, api.Le, api.Lt, api.Mem, api.Subset, api.Hole:
		return api.SBool
	}
	return 0
}

// Check returns the first error of a node that shall be well sorted, uniform and of a sort (0: of any).
func Check(n api.Node, sort int) api.Errno {
	switch {
	case sort < 0 || sort > api.SArr:
		return api.ErrRange
	case !withinLimits(n):
		return api.ErrLimit
	case !wellSorted(n) || !Uniform(n):
		return api.ErrForm
	case sort != 0 && Sort(n) != sort:
		return api.ErrSort
	}
	return api.OK
}

// withinLimits stops at the first node that is too many or too deep, so that it ends soon for any tree, even one that shares its parts.
func withinLimits(n api.Node) bool {
	size := 0
	for level := range walk(n) {
		size++
		if size > api.MaxNodes || level > api.MaxNest {
			return false
		}
	}
	return true
}

func wellSorted(n api.Node) bool {
	for _, m := range walk(n) {
		if !fieldsFit(m) || !kidsFit(m) {
			return false
		}
	}
	return true
}

// fieldsFit reports whether a node has the Name, Sort and Num that its Op uses, and no others.
func fieldsFit(n api.Node) bool {
	if n.Op == api.Var || n.Op == api.App {
		return Name(n.Name) && api.SInt <= n.Sort && n.Sort <= api.SArr && n.Num == 0
	}
	if n.Name != "" || n.Sort != 0 {
		return false
	}
	switch n.Op {
	case api.Int, api.Scale:
		return -api.MaxNum <= n.Num && n.Num <= api.MaxNum
	case api.Hole:
		return 0 <= n.Num && n.Num < api.MaxUnknown
	}
	return n.Num == 0
}

// kidsFit reports whether a node has kids of the number and the sorts that its Op takes; of an Op that is none no kids fit.
func kidsFit(n api.Node) bool {
	switch n.Op {
	case api.Var, api.Int, api.Empty, api.True, api.False:
		return takes(n.Kids)
	case api.App:
		return len(n.Kids) <= api.MaxArgs
	case api.Hole:
		return 1 <= len(n.Kids) && len(n.Kids) <= maxHoleKids
	case api.Neg, api.Scale, api.Sing:
		return takes(n.Kids, api.SInt)
	case api.Add, api.Sub, api.Le, api.Lt:
		return takes(n.Kids, api.SInt, api.SInt)
	case api.Cup, api.Cap, api.Minus, api.Subset:
		return takes(n.Kids, api.SSet, api.SSet)
	case api.Mem:
		return takes(n.Kids, api.SInt, api.SSet)
	case api.Sel:
		return takes(n.Kids, api.SArr, api.SInt)
	case api.Sto:
		return takes(n.Kids, api.SArr, api.SInt, api.SInt)
	case api.Len:
		return takes(n.Kids, api.SArr)
	case api.Not:
		return takes(n.Kids, api.SBool)
	case api.And, api.Or, api.Imp, api.Iff:
		return takes(n.Kids, api.SBool, api.SBool)
	case api.Eq:
		return len(n.Kids) == 2 && alike(n.Kids[0], n.Kids[1])
	case api.Ite:
		return len(n.Kids) == 3 && Sort(n.Kids[0]) == api.SBool && alike(n.Kids[1], n.Kids[2])
	}
	return false
}

// takes reports whether kids have just these sorts.
func takes(kids []api.Node, sorts ...int) bool {
	if len(kids) != len(sorts) {
		return false
	}
	for i, s := range sorts {
		if Sort(kids[i]) != s {
			return false
		}
	}
	return true
}

// alike reports whether two nodes are terms of one sort.
func alike(a, b api.Node) bool {
	s := Sort(a)
	return s == Sort(b) && (s == api.SInt || s == api.SObj || s == api.SSet || s == api.SArr)
}

// Uniform reports whether no name has variables of two sorts, or a variable and an application without kids.
func Uniform(n api.Node) bool {
	vars := map[string]int{}
	constants := map[string]bool{}
	for _, m := range walk(n) {
		sort, known := vars[m.Name]
		switch {
		case m.Op == api.Var:
			if constants[m.Name] || known && sort != m.Sort {
				return false
			}
			vars[m.Name] = m.Sort
		case m.Op == api.App && len(m.Kids) == 0:
			if known {
				return false
			}
			constants[m.Name] = true
		}
	}
	return true
}
