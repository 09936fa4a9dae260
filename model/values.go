package model

import (
	"cmp"
	"slices"

	"quantale/api"
)

const (
	// maxAmount is the greatest amount of a number in a value; the sum of two such numbers is still an int64.
	maxAmount = 1 << 60
	// maxList is the greatest number of elements of a set, and of indices at which an array is not 0.
	maxList = 200
)

// value is a value of a sort, with what is asked about values and what is made of them.
type value api.Val

func number(n int64) value {
	return value{Sort: api.SInt, Num: n}
}

func truth(b bool) value {
	if b {
		return value{Sort: api.SBool, Num: 1}
	}
	return value{Sort: api.SBool}
}

func set(l []int64) value {
	return value{Sort: api.SSet, Set: l}
}

// standard returns the default of a sort from 1 to 5.
func standard(sort int) value {
	switch sort {
	case api.SInt:
		return number(0)
	case api.SBool:
		return truth(false)
	case api.SSet:
		return set(nil)
	}
	// The object 0, and the array of length 0 with 0 everywhere.
	return value{Sort: sort}
}

// compare orders values by their fields.
func (v value) compare(w value) int {
	if c := cmp.Or(cmp.Compare(v.Sort, w.Sort), cmp.Compare(v.Num, w.Num)); c != 0 {
		return c
	}
	if c := slices.Compare(v.Set, w.Set); c != 0 {
		return c
	}
	if c := slices.Compare(v.At, w.At); c != 0 {
		return c
	}
	return slices.Compare(v.To, w.To)
}

func (v value) same(w value) bool {
	return v.compare(w) == 0
}

// holds reports whether a truth value is true.
func (v value) holds() bool {
	return v.Num == 1
}

func (v value) valid() bool {
	if !v.small() || !ascending(v.Set) || !ascending(v.At) || len(v.To) != len(v.At) || !nonzero(v.To) {
		return false
	}
	switch v.Sort {
	case api.SInt, api.SObj:
		return len(v.Set) == 0 && len(v.At) == 0
	case api.SBool:
		return (v.Num == 0 || v.Num == 1) && len(v.Set) == 0 && len(v.At) == 0
	case api.SSet:
		return v.Num == 0 && len(v.At) == 0
	case api.SArr:
		return v.Num >= 0 && len(v.Set) == 0
	}
	return false
}

// small reports whether a value, the numbers in whose lists are within their bounds, is within all bounds.
func (v value) small() bool {
	return bounded(v.Num) && len(v.Set) <= maxList && len(v.At) <= maxList
}

func bounded(n int64) bool {
	return -maxAmount <= n && n <= maxAmount
}

// ascending reports whether numbers are within their bounds and strictly ascending.
func ascending(l []int64) bool {
	for i, n := range l {
		if !bounded(n) || i > 0 && n <= l[i-1] {
			return false
		}
	}
	return true
}

// nonzero reports whether numbers are within their bounds and none of them is 0.
func nonzero(l []int64) bool {
	for _, n := range l {
		if !bounded(n) || n == 0 {
			return false
		}
	}
	return true
}

func copyOf(v api.Val) api.Val {
	v.Set = slices.Clone(v.Set)
	v.At = slices.Clone(v.At)
	v.To = slices.Clone(v.To)
	return v
}
