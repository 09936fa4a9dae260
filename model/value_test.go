package model_test

import (
	"testing"

	"quantale/api"
	"quantale/logic"
	"quantale/model"
)

// sample has entries for some of the names of helpers_test.go; the other names have none.
func sample() api.Model {
	return api.Model{
		entry("i", number(5)), entry("j", number(-3)), entry("p", truth(true)), entry("o", object(2)),
		entry("s", set(1, 3, 5)), entry("t", set(3, 4)), entry("a", array(3, 0, 7, 2, -9, 8, 1)),
		entry("f", number(50), number(5)), entry("f", number(51), number(6)), entry("f", object(52), number(7)),
		entry("g", number(60), set(1, 3, 5), number(5)), entry("g", number(61), array(3, 0, 7, 2, -9, 8, 1), object(2)),
		entry("is", truth(true), object(2)), entry("nil", object(4)), entry("cons", object(2), number(1), object(4)),
		entry("elems", set(1), object(2)), entry("items", array(1, 0, 1), set(3, 4), array(0)), entry("of", number(70), truth(true)),
		// entries of names above that are for something else
		entry("i", object(99)), entry("i", number(98), number(5)), entry("k", object(97)), entry("k", number(96), number(0)), entry("nil", number(95)),
	}
}

func TestValueOfNames(t *testing.T) {
	for text, want := range map[string]api.Val{
		"i": number(5), "j": number(-3), "p": truth(true), "o": object(2), "s": set(1, 3, 5), "a": array(3, 0, 7, 2, -9, 8, 1),
		"k": number(0), "q": truth(false), "u": object(0), "w": set(), "b": array(0),
		"f(i)": number(50), "f(6)": number(51), "f(7)": number(0), "f(k)": number(0), "f(f(5) - 44)": number(51),
		"g(s, i)": number(60), "g(cup(cup(sing(5), sing(1)), sing(3)), 5)": number(60), "g(a, o)": number(61), "g(i, s)": number(0),
		"g(sto(a, 8, 2), o)": number(0), "g(sto(sto(a, 8, 2), 8, 1), o)": number(61),
		"is(o)": truth(true), "is(u)": truth(false), "nil": object(4), "nil()": object(4), "cons(1, nil)": object(2), "cons(1, o)": object(0),
		"elems(cons(1, nil))": set(1), "elems(nil)": set(), "items(t, b)": array(1, 0, 1), "items(t, a)": array(0), "of(p)": number(70), "of(i = 5)": number(70),
		"of(q)": number(0),
	} {
		expectValue(t, "P3.2", read(t, text), sample(), want)
	}
	for _, sort := range sorts {
		want, _ := model.Default(sort)
		expectValue(t, "P3.2", variable("none", sort), sample(), want)
		expectValue(t, "P3.2", call("none", sort), sample(), want)
		expectValue(t, "P3.2", call("f", sort, variable("none", sort)), nil, want)
	}
	// A variable's entry has no arguments, and one of another sort is none.
	expectValue(t, "P3.2", variable("i", api.SObj), sample(), object(99))
	expectValue(t, "P3.2", variable("i", api.SSet), sample(), set())
	expectValue(t, "P3.2", call("f", api.SObj, read(t, "7")), sample(), object(52))
	expectValue(t, "P3.2", call("f", api.SObj, read(t, "5")), sample(), object(0))
	expectValue(t, "P3.2", call("nil", api.SInt), sample(), number(95))
}

func TestValueOfTerms(t *testing.T) {
	for text, want := range map[string]api.Val{
		"12": number(12), "-12": number(-12), "i + j": number(2), "i - j": number(8), "j - i": number(-8), "-i": number(-5), "-(-i)": number(5),
		"3 * i": number(15), "-3 * i": number(-15), "0 * i": number(0), "1000000000000 * 1000000": number(1e18), "i + i + j": number(7),
		"ite(p, i, j)": number(5), "ite(q, i, j)": number(-3), "ite(i < j, s, t)": set(3, 4), "ite(p, a, b)": array(3, 0, 7, 2, -9, 8, 1), "ite(q, o, u)": object(0),
		"empty": set(), "sing(i)": set(5), "sing(0)": set(0), "cup(s, t)": set(1, 3, 4, 5), "cup(t, s)": set(1, 3, 4, 5), "cup(s, s)": set(1, 3, 5),
		"cup(empty, t)": set(3, 4), "cup(t, empty)": set(3, 4), "cup(sing(9), t)": set(3, 4, 9), "cup(t, sing(-9))": set(-9, 3, 4),
		"cap(s, t)": set(3), "cap(t, s)": set(3), "cap(s, s)": set(1, 3, 5), "cap(s, empty)": set(), "cap(s, sing(2))": set(),
		"diff(s, t)": set(1, 5), "diff(t, s)": set(4), "diff(s, s)": set(), "diff(empty, s)": set(), "diff(s, empty)": set(1, 3, 5),
		"sel(a, 0)": number(7), "sel(a, 1)": number(0), "sel(a, 2)": number(-9), "sel(a, 3)": number(0), "sel(a, 8)": number(1), "sel(a, -1)": number(0), "sel(b, 0)": number(0),
		"vlen(a)": number(3), "vlen(b)": number(0), "vlen(sto(a, 90, 1))": number(3),
		"sto(a, 1, 4)": array(3, 0, 7, 1, 4, 2, -9, 8, 1), "sto(a, 0, 4)": array(3, 0, 4, 2, -9, 8, 1), "sto(a, 8, 4)": array(3, 0, 7, 2, -9, 8, 4),
		"sto(a, -6, 4)": array(3, -6, 4, 0, 7, 2, -9, 8, 1), "sto(a, 9, 4)": array(3, 0, 7, 2, -9, 8, 1, 9, 4),
		"sto(a, 0, 0)": array(3, 2, -9, 8, 1), "sto(a, 2, 0)": array(3, 0, 7, 8, 1), "sto(a, 8, 0)": array(3, 0, 7, 2, -9), "sto(a, 1, 0)": array(3, 0, 7, 2, -9, 8, 1),
		"sto(b, 3, 1)": array(0, 3, 1), "sto(b, 3, 0)": array(0), "sto(sto(b, 3, 1), 3, 0)": array(0), "sel(sto(a, i, j), i)": number(-3), "sel(sto(a, i, j), 8)": number(1),
	} {
		expectValue(t, "P3.2", read(t, text), sample(), want)
	}
}

func TestTruth(t *testing.T) {
	for text, want := range map[string]bool{
		"true": true, "false": false, "p": true, "q": false, "!p": false, "!q": true,
		"p && p": true, "p && q": false, "q && p": false, "q && q": false, "p || p": true, "p || q": true, "q || p": true, "q || q": false,
		"p => p": true, "p => q": false, "q => p": true, "q => q": true, "p <=> p": true, "p <=> q": false, "q <=> p": false, "q <=> r": true,
		"i = 5": true, "i = j": false, "o = cons(1, nil)": true, "o = u": false, "s = cup(sing(5), cup(sing(3), sing(1)))": true, "s = t": false, "w = empty": true,
		"a = a": true, "a = b": false, "sto(a, 8, 0) = sto(a, 8, 1)": false, "sto(a, 0, 7) = a": true, "sto(b, 1, 0) = b": true, "sto(a, 1, 2) = sto(sto(a, 1, 3), 1, 2)": true,
		// arrays of other lengths differ, whatever they have at indices
		"items(t, b) = sto(b, 0, 1)": false, "sto(items(t, b), 0, 0) = b": false, "i != 5": false, "i != 4": true,
		"j <= i": true, "i <= i": true, "i <= j": false, "j < i": true, "i < i": false, "i < j": false,
		"3 in s": true, "2 in s": false, "0 in empty": false, "-3 in sing(j)": true,
		"s sub s": true, "empty sub s": true, "s sub empty": false, "w sub empty": true, "sing(5) sub s": true, "sing(4) sub s": false, "t sub s": false, "cap(s, t) sub t": true,
		"is(o) && !is(u)": true, "is(cons(1, nil)) <=> 1 in elems(o)": true,
	} {
		expectValue(t, "P3.2", read(t, text), sample(), truth(want))
	}
}

func TestCheckErrors(t *testing.T) {
	i, s := variable("i", api.SInt), variable("s", api.SSet)
	wrong := api.Model{entry("i", number(1)), entry("i", number(2))}
	for _, m := range []api.Model{sample(), wrong} {
		for _, n := range []api.Node{{}, node(99), node(api.Le, i, s), node(api.Not, i), node(api.Eq, variable("x", api.SInt), variable("x", 0)),
			node(api.And, node(api.Eq, i, i), variable("i", api.SBool)), {Op: api.Int, Num: api.MaxNum + 1}, node(api.Hole), call("true", api.SInt)} {
			expectNone(t, "P3.2: not well sorted", n, m, api.ErrForm)
		}
		for _, n := range []api.Node{chain(api.Neg, api.MaxNest, i), chain(99, api.MaxNest, s), chain(api.Not, api.MaxNest, node(api.Hole, i))} {
			expectNone(t, "P3.2: levels", n, m, api.ErrLimit)
		}
		many := node(99)
		many.Kids = make([]api.Node, api.MaxNodes)
		expectNone(t, "P3.2: nodes", many, m, api.ErrLimit)
		for _, text := range []string{"i", "o", "s", "a", "i + 1", "sto(a, 1, 2)", "f(i)", "nil", "ite(p, s, t)", "1000000000000 * 1000000000000 * i"} {
			if got, e := model.Truth(read(t, text), m); got || e != api.ErrSort {
				t.Errorf("P3.2: the truth of %q is %v, %d, not ErrSort", text, got, e)
			}
		}
	}
}

func TestFormErrors(t *testing.T) {
	hole := node(api.Hole, read(t, "i"))
	great := "1000000000000 * 1000000000000 * 1000 <= i"
	for _, n := range []api.Node{hole, node(api.Not, hole), node(api.Or, read(t, "p"), hole), node(api.And, hole, read(t, great)),
		node(api.Le, read(t, "1"), call("f", api.SInt, hole)), node(api.Eq, read(t, "s"), node(api.Ite, hole, read(t, "s"), read(t, "t")))} {
		expectNone(t, "P3.2: a Hole", n, sample(), api.ErrForm)
		expectNone(t, "P3.2: a Hole", n, nil, api.ErrForm)
	}
	for _, m := range wrongModels() {
		for _, text := range []string{"1", "i", "true", "i < j", "k in sing(k)", great} {
			expectNone(t, "P3.2: not a model", read(t, text), m, api.ErrForm)
		}
	}
}

// bounds has entries that are as great as they may be.
func bounds() api.Model {
	return api.Model{entry("i", number(most)), entry("j", number(-most)), entry("k", number(most/4)), entry("p", truth(true)),
		entry("s", set(span(0, 200)...)), entry("t", set(span(200, 1)...)), entry("w", set(span(100, 200)...)),
		entry("a", filled(0, 200)), entry("b", array(most, most, most))}
}

func TestWithinLimits(t *testing.T) {
	for text, want := range map[string]api.Val{
		"i": number(most), "-i": number(-most), "-j": number(most), "i + j": number(0), "i + 0": number(most), "i - 1 + 1": number(most), "j + 1 - 1": number(-most),
		"4 * k": number(most), "-(4 * k)": number(-most), "1 * i": number(most), "0 * j": number(0), "2 * k + 2 * k": number(most), "vlen(b)": number(most), "sel(b, i)": number(most),
		"sing(j)": set(-most), "s": set(span(0, 200)...), "cup(s, s)": set(span(0, 200)...), "cup(s, cap(s, w))": set(span(0, 200)...),
		"cup(diff(s, sing(0)), t)": set(span(1, 200)...), "cup(diff(s, w), cap(s, w))": set(span(0, 200)...), "a": filled(0, 200), "sto(a, 199, 7)": filled(0, 200),
		"sto(sto(a, 0, 0), 0, 7)": filled(0, 200), "sto(a, 200, 0)": filled(0, 200), "sto(b, i, j)": array(most, most, -most),
		"sto(sto(b, i, 0), j, i)": array(most, -most, most),
	} {
		expectValue(t, "P3.2", read(t, text), bounds(), want)
	}
	expectValue(t, "P3.2", api.Node{Op: api.Scale, Num: -4, Kids: []api.Node{read(t, "k")}}, bounds(), number(-most))
	expectValue(t, "P3.2", read(t, "s sub cup(s, s) && j <= i && i in sing(-j)"), bounds(), truth(true))
}

func TestBeyondLimits(t *testing.T) {
	for _, text := range []string{
		"i + 1", "1 + i", "i + i", "j + j", "j - 1", "j - i", "i - j", "-1 + j", "2 * i", "2 * j", "5 * k", "1000000000000 * i", "1000000000000 * j", "1000000000000 * 1000000000000",
		// products that come back into bounds as machine numbers
		"16 * i", "32 * j", "64 * k", "576460752303 * (32 * k)",
		"cup(s, t)", "cup(t, s)", "cup(s, w)", "cup(s, sing(-1))", "sto(a, 200, 1)", "sto(a, -1, 1)", "sto(a, 77000, 1)",
	} {
		n := read(t, text)
		expectNone(t, "P3.2: beyond", n, bounds(), api.ErrLimit)
		// All parts are evaluated, also where others decide.
		expectNone(t, "P3.2: beyond", node(api.Or, node(api.True), node(api.Eq, n, n)), bounds(), api.ErrLimit)
		expectNone(t, "P3.2: beyond", node(api.Imp, node(api.False), node(api.Eq, n, n)), bounds(), api.ErrLimit)
		expectNone(t, "P3.2: beyond", node(api.And, node(api.False), node(api.Eq, n, n)), bounds(), api.ErrLimit)
		v := variable("none", logic.Sort(n))
		expectNone(t, "P3.2: beyond", node(api.Ite, node(api.True), v, n), bounds(), api.ErrLimit)
		expectNone(t, "P3.2: beyond", node(api.Ite, node(api.False), n, v), bounds(), api.ErrLimit)
		expectNone(t, "P3.2: beyond", call("f", api.SSet, v, n), bounds(), api.ErrLimit)
		expectValue(t, "P3.2", node(api.Ite, node(api.False), v, v), bounds(), defaultOf(t, logic.Sort(n)))
	}
	// A number on the way counts, even if the number at the end is within bounds.
	for _, text := range []string{"i + 1 - 1", "i + i + j", "i - j + j", "0 * (2 * i)", "2 * i = 2 * i", "i + 1 <= j", "k in sing(i + 1)", "vlen(sto(b, i + 1, 0))", "sel(a, j - 1)",
		"sel(sto(b, 1, 2 * i), 2)", "cap(cup(s, t), t) = t", "vlen(sto(a, 200, 1)) = 200", "sto(sto(a, 200, 1), 200, 0) = a", "0 * -(2 * j) = 0"} {
		expectNone(t, "P3.2: on the way", read(t, text), bounds(), api.ErrLimit)
	}
}

func defaultOf(t *testing.T, sort int) api.Val {
	t.Helper()
	v, e := model.Default(sort)
	if e != api.OK {
		t.Fatalf("P3.1: no default of sort %d: %d", sort, e)
	}
	return v
}
