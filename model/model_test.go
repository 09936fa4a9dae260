package model_test

import (
	"slices"
	"strings"
	"testing"

	"quantale/api"
	"quantale/model"
)

// validVals has valid values of each sort, with those at the bounds.
func validVals() []api.Val {
	return []api.Val{
		number(0), number(1), number(-1), number(most), number(-most),
		truth(false), truth(true),
		object(0), object(-5), object(most), object(-most),
		set(), set(0), set(-3), set(-2, 0, 7), set(-most, most), set(span(-100, 200)...), {Sort: api.SSet, Set: []int64{}},
		array(0), array(3), array(most), array(2, 0, 5, 1, -5), array(0, -most, most, -1, 1, most, -most), filled(-50, 200),
		{Sort: api.SArr, Num: 2, At: []int64{}, To: []int64{}}, {Sort: api.SInt, Set: []int64{}, At: []int64{}, To: []int64{}},
	}
}

// wrongVals has values each of which breaks one rule.
func wrongVals() []api.Val {
	l := []api.Val{
		{}, {Sort: -1}, {Sort: 6}, {Sort: 100, Num: 1},
		number(most + 1), number(-most - 1), number(1<<63 - 1), number(-1 << 63), object(most + 1), object(-most - 1),
		{Sort: api.SBool, Num: 2}, {Sort: api.SBool, Num: -1},
		{Sort: api.SSet, Num: 1}, {Sort: api.SSet, Num: -1}, set(1, 1), set(2, 1), set(0, 5, 3), set(1, 2, 2, 3),
		set(most + 1), set(-most-1, 0), set(0, 1<<63-1), set(span(0, 201)...),
		array(-1), array(most + 1), array(1, 0, 0), array(3, 0, 1, 1, 0), array(2, 1, 4, 0, 4), array(2, 1, 4, 1, 4),
		array(2, most+1, 1), array(2, -most-1, 1), array(2, 0, most+1), array(2, 0, -most-1), array(2, 0, -1<<63), filled(0, 201),
		{Sort: api.SArr, At: []int64{1}}, {Sort: api.SArr, To: []int64{1}}, {Sort: api.SArr, At: []int64{1, 2}, To: []int64{1}},
		{Sort: api.SArr, At: []int64{1}, To: []int64{1, 2}}, {Sort: api.SArr, Set: []int64{1}},
	}
	for _, sort := range []int{0, api.SInt, api.SBool, api.SObj, api.SSet} {
		l = append(l, api.Val{Sort: sort, At: []int64{1}, To: []int64{1}}, api.Val{Sort: sort, At: []int64{1}}, api.Val{Sort: sort, To: []int64{1}})
		if sort != api.SSet {
			l = append(l, api.Val{Sort: sort, Set: []int64{1}})
		}
	}
	return l
}

func TestValidVal(t *testing.T) {
	for _, v := range validVals() {
		if !model.ValidVal(v) {
			t.Errorf("P3.1: %v is valid", v)
		}
	}
	for _, v := range wrongVals() {
		if model.ValidVal(v) {
			t.Errorf("P3.1: %v is not valid", v)
		}
	}
}

func TestSame(t *testing.T) {
	l := []api.Val{{}, {Sort: 9}, {Sort: 9, Num: 1}, set(2, 1), set(1), set(1, 2), set(1, 3), set(1, 1), number(1), object(1), truth(true), array(1), array(0),
		array(1, 1, 2), array(1, 1, 3), array(1, 2, 2), array(1, 1, 2, 3, 4), array(2, 1, 2), set(),
		{Sort: api.SArr, At: []int64{1}}, {Sort: api.SArr, To: []int64{1}}, {Sort: api.SArr, Set: []int64{1}}, {Sort: api.SSet, Num: 1, Set: []int64{1}}}
	for i, v := range l {
		for j, w := range l {
			if model.Same(v, w) != (i == j) {
				t.Errorf("P3.1: Same(%v, %v) is %v", v, w, i != j)
			}
		}
		w := v
		w.Set, w.At, w.To = append([]int64{}, v.Set...), append([]int64{}, v.At...), append([]int64{}, v.To...)
		if !model.Same(v, w) || !model.Same(w, v) {
			t.Errorf("P3.1: a copy of %v is the same", v)
		}
	}
}

func TestDefault(t *testing.T) {
	for sort, want := range map[int]api.Val{api.SInt: number(0), api.SBool: truth(false), api.SObj: object(0), api.SSet: set(), api.SArr: array(0)} {
		if got, e := model.Default(sort); e != api.OK || !same(got, want) || !model.ValidVal(got) {
			t.Errorf("P3.1: the default of sort %d is %v, %d", sort, got, e)
		}
	}
	for _, sort := range []int{0, -1, 6, 1 << 40, -1 << 40} {
		if got, e := model.Default(sort); e != api.ErrRange || !same(got, api.Val{}) {
			t.Errorf("P3.1: the default of sort %d is %v, %d, not ErrRange", sort, got, e)
		}
	}
}

// validModels has models whose entries are alike, but are of different things.
func validModels() []api.Model {
	return []api.Model{
		nil, {},
		{entry("x", number(1))},
		{entry("x", number(1)), entry("y", number(1))},
		{entry("x", number(1)), entry("x", object(1)), entry("x", truth(true)), entry("x", set()), entry("x", array(1))},
		{entry("f", number(1)), entry("f", number(1), number(1)), entry("f", number(1), number(1), number(1)), entry("f", number(2), number(2))},
		{entry("f", number(1), number(1)), entry("f", object(1), number(1))},
		{entry("f", number(1), number(1)), entry("f", number(1), object(1)), entry("f", number(1), truth(true))},
		{entry("f", number(1), set()), entry("f", number(1), set(1)), entry("f", number(1), set(1, 2)), entry("f", number(1), set(2))},
		{entry("f", number(1), array(1, 2, 3)), entry("f", number(1), array(1, 2, 4)), entry("f", number(1), array(1, 3, 3)), entry("f", number(1), array(2, 2, 3))},
		{entry("f", number(1), number(1), number(2)), entry("f", number(1), number(2), number(1))},
		{entry("f", array(3, 1, 1), slices.Repeat([]api.Val{set(1)}, api.MaxArgs)...)},
		{entry("z.0", number(most)), entry(strings.Repeat("a", api.MaxLong), set(most))},
		entries(2000),
	}
}

// wrongModels has models each of which breaks one rule.
func wrongModels() []api.Model {
	l := []api.Model{
		{entry("", number(1))}, {entry("true", number(1))}, {entry("a b", number(1))}, {entry("1", number(1))},
		{entry(strings.Repeat("a", api.MaxLong+1), number(1))}, {entry("y", number(1)), entry("sel", number(1))},
		{entry("f", number(1), slices.Repeat([]api.Val{set(1)}, api.MaxArgs+1)...)},
		{entry("x", number(1)), entry("x", number(1))}, {entry("x", number(1)), entry("y", number(1)), entry("x", number(2))},
		{entry("x", set(1)), {Name: "x", Args: []api.Val{}, Val: set(2)}},
		{entry("f", number(1), set()), {Name: "f", Args: []api.Val{{Sort: api.SSet, Set: []int64{}}}, Val: number(2)}},
		{entry("f", object(1), number(1), array(2, 1, 1)), entry("g", object(1)), entry("f", object(2)), entry("f", object(3), number(1), array(2, 1, 1))},
		append(entries(1999), entry("x0", number(5))),
		entries(2001),
	}
	for _, v := range wrongVals() {
		l = append(l, api.Model{entry("x", v)}, api.Model{entry("f", number(1), v)}, api.Model{entry("y", number(1)), entry("f", number(1), number(1), v)})
	}
	return l
}

func TestValid(t *testing.T) {
	for k, m := range validModels() {
		if !model.Valid(m) {
			t.Errorf("P3.1: model %d is valid", k)
		}
		slices.Reverse(m)
		if !model.Valid(m) {
			t.Errorf("P3.1: model %d is valid in any order", k)
		}
	}
	for k, m := range wrongModels() {
		if model.Valid(m) {
			t.Errorf("P3.1: model %d is not valid", k)
		}
		slices.Reverse(m)
		if model.Valid(m) {
			t.Errorf("P3.1: model %d is not valid in any order", k)
		}
	}
}

func TestSet(t *testing.T) {
	x, y, f := entry("x", number(1)), entry("y", set(2)), entry("f", number(3), number(1), set(2))
	m := api.Model{x, y, f}
	for _, c := range []struct {
		m    api.Model
		e    api.Entry
		want api.Model
	}{
		{nil, x, api.Model{x}},
		{api.Model{}, f, api.Model{f}},
		// in the place of one of the same name, arguments and sort
		{m, entry("x", number(9)), api.Model{entry("x", number(9)), y, f}},
		{m, x, m},
		{m, entry("y", set()), api.Model{x, entry("y", set()), f}},
		{m, entry("f", number(9), number(1), set(2)), api.Model{x, y, entry("f", number(9), number(1), set(2))}},
		{m, api.Entry{Name: "x", Args: []api.Val{}, Val: number(4)}, api.Model{entry("x", number(4)), y, f}},
		// at the end, where name, arguments or sort differ
		{m, entry("a", number(9)), api.Model{x, y, f, entry("a", number(9))}},
		{m, entry("x", object(9)), api.Model{x, y, f, entry("x", object(9))}},
		{m, entry("f", set(), number(1), set(2)), api.Model{x, y, f, entry("f", set(), number(1), set(2))}},
		{m, entry("f", number(3)), api.Model{x, y, f, entry("f", number(3))}},
		{m, entry("f", number(3), number(1), set(1)), api.Model{x, y, f, entry("f", number(3), number(1), set(1))}},
		{m, entry("f", number(3), object(1), set(2)), api.Model{x, y, f, entry("f", number(3), object(1), set(2))}},
		{m, entry("x", number(1), number(1)), api.Model{x, y, f, entry("x", number(1), number(1))}},
	} {
		expectSet(t, c.m, c.e, c.want)
	}
}

func TestSetErrors(t *testing.T) {
	x := entry("x", number(1))
	for _, m := range wrongModels() {
		expectNoSet(t, m, x, api.ErrForm)
		if len(m) == 1 {
			expectNoSet(t, nil, m[0], api.ErrForm)
			expectNoSet(t, entries(3), m[0], api.ErrForm)
			expectNoSet(t, entries(2000), m[0], api.ErrForm)
		}
	}
	// A model that is wrong at the place that the entry would take is wrong.
	expectNoSet(t, api.Model{entry("x", number(most+1))}, x, api.ErrForm)
	expectNoSet(t, append(entries(2000), x), x, api.ErrForm)
	full := entries(2000)
	expectNoSet(t, full, x, api.ErrLimit)
	expectNoSet(t, full, entry("x7", object(1)), api.ErrLimit)
	expectSet(t, full[:1999], x, append(entries(1999), x))
	// An entry in the place of another one is none more.
	want := entries(2000)
	want[1500].Val = number(-1)
	expectSet(t, full, entry("x1500", number(-1)), want)
}
