package model_test

import (
	"fmt"
	"slices"
	"testing"

	"quantale/api"
	"quantale/formula"
	"quantale/logic"
	"quantale/model"
)

// most is the greatest amount of a number in a value.
const most = 1 << 60

var sorts = []int{api.SInt, api.SBool, api.SObj, api.SSet, api.SArr}

func number(n int64) api.Val { return api.Val{Sort: api.SInt, Num: n} }

func truth(b bool) api.Val {
	if b {
		return api.Val{Sort: api.SBool, Num: 1}
	}
	return api.Val{Sort: api.SBool}
}

func object(n int64) api.Val { return api.Val{Sort: api.SObj, Num: n} }

func set(l ...int64) api.Val { return api.Val{Sort: api.SSet, Set: l} }

// array has a length, then indices and the integers at them in turn.
func array(length int64, l ...int64) api.Val {
	v := api.Val{Sort: api.SArr, Num: length}
	for k := 0; k < len(l); k += 2 {
		v.At = append(v.At, l[k])
		v.To = append(v.To, l[k+1])
	}
	return v
}

// span is a number of integers from the first one on.
func span(first, count int64) []int64 {
	var l []int64
	for k := range count {
		l = append(l, first+k)
	}
	return l
}

// filled has a 7 at each of a number of indices from the first one on.
func filled(first, count int64) api.Val {
	v := api.Val{Sort: api.SArr, Num: count, At: span(first, count)}
	for range count {
		v.To = append(v.To, 7)
	}
	return v
}

// entry gives a variable or a function at arguments a value.
func entry(name string, v api.Val, args ...api.Val) api.Entry {
	return api.Entry{Name: name, Args: args, Val: v}
}

// entries are for different variables.
func entries(count int) api.Model {
	var m api.Model
	for k := range count {
		m = append(m, entry(fmt.Sprint("x", k), number(int64(k))))
	}
	return m
}

func declared() []api.Decl {
	var l []api.Decl
	for k, names := range [][]string{{"i", "j", "k"}, {"p", "q", "r"}, {"o", "u"}, {"s", "t", "w"}, {"a", "b"}} {
		for _, name := range names {
			l = append(l, api.Decl{Name: name, Sort: sorts[k]})
		}
	}
	return l
}

func signed() []api.Sig {
	return []api.Sig{{Name: "f", Args: []int{api.SInt}, Sort: api.SInt}, {Name: "g", Args: []int{0, 0}, Sort: api.SInt},
		{Name: "is", Args: []int{api.SObj}, Sort: api.SBool}, {Name: "nil", Sort: api.SObj}, {Name: "cons", Args: []int{api.SInt, api.SObj}, Sort: api.SObj},
		{Name: "elems", Args: []int{api.SObj}, Sort: api.SSet}, {Name: "items", Args: []int{api.SSet, api.SArr}, Sort: api.SArr},
		{Name: "of", Args: []int{api.SBool}, Sort: api.SInt}}
}

// read returns the node of a text over the names above.
func read(t *testing.T, text string) api.Node {
	t.Helper()
	n, e := formula.Read(text, declared(), signed())
	if e != api.OK {
		t.Fatalf("%q is no text of a node: %d", text, e)
	}
	return n
}

func node(op int, kids ...api.Node) api.Node { return api.Node{Op: op, Kids: kids} }

func variable(name string, sort int) api.Node { return api.Node{Op: api.Var, Name: name, Sort: sort} }

func call(name string, sort int, kids ...api.Node) api.Node {
	return api.Node{Op: api.App, Name: name, Sort: sort, Kids: kids}
}

// chain is a node below n operators of one kid.
func chain(op, n int, kid api.Node) api.Node {
	for range n {
		kid = node(op, kid)
	}
	return kid
}

// same compares values field by field, without the package that is tested.
func same(a, b api.Val) bool {
	return a.Sort == b.Sort && a.Num == b.Num && slices.Equal(a.Set, b.Set) && slices.Equal(a.At, b.At) && slices.Equal(a.To, b.To)
}

func sameEntry(a, b api.Entry) bool {
	return a.Name == b.Name && slices.EqualFunc(a.Args, b.Args, same) && same(a.Val, b.Val)
}

func expectValue(t *testing.T, promise string, n api.Node, m api.Model, want api.Val) {
	t.Helper()
	if got, e := model.Value(n, m); e != api.OK || !same(got, want) {
		t.Errorf("%s: the value of %v is %v, %d, not %v", promise, n, got, e, want)
	}
	if logic.Sort(n) != api.SBool {
		return
	}
	if got, e := model.Truth(n, m); e != api.OK || got != (want.Num == 1) {
		t.Errorf("%s: the truth of %v is %v, %d, not %v", promise, n, got, e, want)
	}
}

// expectNone expects that Value and, for a formula, Truth answer an error.
func expectNone(t *testing.T, promise string, n api.Node, m api.Model, want api.Errno) {
	t.Helper()
	if got, e := model.Value(n, m); e != want || !same(got, api.Val{}) {
		t.Errorf("%s: the value of %v is %v, %d, not error %d", promise, n, got, e, want)
	}
	if logic.Sort(n) != api.SBool {
		return
	}
	if got, e := model.Truth(n, m); e != want || got {
		t.Errorf("%s: the truth of %v is %v, %d, not error %d", promise, n, got, e, want)
	}
}

func expectSet(t *testing.T, m api.Model, e api.Entry, want api.Model) {
	t.Helper()
	if got, err := model.Set(m, e); err != api.OK || !slices.EqualFunc(got, want, sameEntry) {
		t.Errorf("P3.3: Set of %v is %v, %d, not %v", e, got, err, want)
	}
}

func expectNoSet(t *testing.T, m api.Model, e api.Entry, want api.Errno) {
	t.Helper()
	if got, err := model.Set(m, e); err != want || len(got) != 0 {
		t.Errorf("P3.3: Set of %v is %v, %d, not error %d", e, got, err, want)
	}
}
