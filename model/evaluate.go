package model

import (
	"math"
	"slices"

	"quantale/api"
	"quantale/logic"
)

// evaluate returns the value of a node, and false if it or one on the way is not small. The lists of values are never changed, so that they may be shared.
func (t table) evaluate(n api.Node) (value, bool) {
	kids := make([]value, len(n.Kids))
	for i, k := range n.Kids {
		v, ok := t.evaluate(k)
		if !ok {
			return value{}, false
		}
		kids[i] = v
	}
	v := t.apply(n, kids)
	return v, v.small()
}

// apply returns the value of a node whose kids have these values.
func (t table) apply(n api.Node, kids []value) value {
	switch n.Op {
	case api.Var, api.App:
		return t.find(n.Name, kids, n.Sort)
	case api.Ite:
		if kids[0].holds() {
			return kids[1]
		}
		return kids[2]
	case api.Sto:
		return kids[0].store(kids[1].Num, kids[2].Num)
	}
	switch logic.Sort(n) {
	case api.SInt:
		return number(integer(n, kids))
	case api.SSet:
		return set(elements(n.Op, kids))
	}
	return truth(isTrue(n.Op, kids))
}

func integer(n api.Node, kids []value) int64 {
	switch n.Op {
	case api.Add:
		return kids[0].Num + kids[1].Num
	case api.Sub:
		return kids[0].Num - kids[1].Num
	case api.Neg:
		return -kids[0].Num
	case api.Scale:
		return product(n.Num, kids[0].Num)
	case api.Sel:
		return kids[0].at(kids[1].Num)
	case api.Len:
		return kids[0].Num
	}
	return n.Num
}

// product is exact, or beyond maxAmount if the product is no int64.
func product(a, b int64) int64 {
	p := a * b
	if a != 0 && p/a != b {
		return math.MaxInt64
	}
	return p
}

// elements returns the set that an operator makes.
func elements(op int, kids []value) []int64 {
	switch op {
	case api.Sing:
		return []int64{kids[0].Num}
	case api.Cup:
		return union(kids[0].Set, kids[1].Set)
	case api.Cap:
		return chosen(kids[0].Set, kids[1].has)
	case api.Minus:
		return chosen(kids[0].Set, func(n int64) bool { return !kids[1].has(n) })
	}
	return nil
}

// union merges two ascending lists.
func union(a, b []int64) []int64 {
	var l []int64
	for len(a) > 0 && len(b) > 0 {
		least := min(a[0], b[0])
		l = append(l, least)
		if a[0] == least {
			a = a[1:]
		}
		if b[0] == least {
			b = b[1:]
		}
	}
	return slices.Concat(l, a, b)
}

// chosen returns the numbers of which ok is true.
func chosen(l []int64, ok func(int64) bool) []int64 {
	var some []int64
	for _, n := range l {
		if ok(n) {
			some = append(some, n)
		}
	}
	return some
}

func isTrue(op int, kids []value) bool {
	switch op {
	case api.True:
		return true
	case api.Not:
		return !kids[0].holds()
	case api.And:
		return kids[0].holds() && kids[1].holds()
	case api.Or:
		return kids[0].holds() || kids[1].holds()
	case api.Imp:
		return !kids[0].holds() || kids[1].holds()
	case api.Iff, api.Eq:
		return kids[0].same(kids[1])
	case api.Le:
		return kids[0].Num <= kids[1].Num
	case api.Lt:
		return kids[0].Num < kids[1].Num
	case api.Mem:
		return kids[1].has(kids[0].Num)
	case api.Subset:
		return len(chosen(kids[0].Set, kids[1].has)) == len(kids[0].Set)
	}
	return false
}

// has reports whether a number is in a set.
func (v value) has(n int64) bool {
	_, found := slices.BinarySearch(v.Set, n)
	return found
}

// at returns the integer of an array at an index.
func (v value) at(index int64) int64 {
	if i, found := slices.BinarySearch(v.At, index); found {
		return v.To[i]
	}
	return 0
}

// store returns the array that has an integer at an index and else what it has. An integer 0 is kept by no index.
func (v value) store(index, n int64) value {
	i, found := slices.BinarySearch(v.At, index)
	rest := i
	if found {
		rest++
	}
	at, to := []int64{index}, []int64{n}
	if n == 0 {
		at, to = nil, nil
	}
	v.At = slices.Concat(v.At[:i], at, v.At[rest:])
	v.To = slices.Concat(v.To[:i], to, v.To[rest:])
	return v
}
