package formula_test

import (
	"strings"
	"testing"

	"quantale/api"
	"quantale/formula"
	"quantale/logic"
)

func declared() []api.Decl {
	return []api.Decl{{Name: "x", Sort: api.SInt}, {Name: "y", Sort: api.SInt}, {Name: "p", Sort: api.SBool}, {Name: "l", Sort: api.SObj},
		{Name: "s", Sort: api.SSet}, {Name: "a", Sort: api.SArr}, {Name: "x", Sort: api.SSet}}
}

func signed() []api.Sig {
	return []api.Sig{{Name: "len", Args: []int{api.SObj}, Sort: api.SInt}, {Name: "Nil", Sort: api.SObj},
		{Name: "Cons", Args: []int{0, api.SObj}, Sort: api.SObj}, {Name: "even", Args: []int{api.SInt}, Sort: api.SBool}}
}

func sorted(name string, sort int) api.Node { return api.Node{Op: api.Var, Name: name, Sort: sort} }

func call(name string, sort int, kids ...api.Node) api.Node {
	return api.Node{Op: api.App, Name: name, Sort: sort, Kids: kids}
}

func TestRead(t *testing.T) {
	x, y, p, l := sorted("x", api.SInt), sorted("y", api.SInt), sorted("p", api.SBool), sorted("l", api.SObj)
	s, a, none := sorted("s", api.SSet), sorted("a", api.SArr), call("Nil", api.SObj)
	for text, want := range map[string]api.Node{
		"x":                        x,
		"x + 1 <= y":               op(api.Le, op(api.Add, x, num(1)), y),
		"x > y":                    op(api.Lt, y, x),
		"p = (x != y)":             op(api.Iff, p, not(op(api.Eq, x, y))),
		"even(x) <=> p":            op(api.Iff, call("even", api.SBool, x), p),
		"len(Cons(x, Nil)) = 1":    op(api.Eq, call("len", api.SInt, call("Cons", api.SObj, x, none)), num(1)),
		"l = Nil()":                op(api.Eq, l, none),
		"sel(sto(a, x, 0), x) = 0": op(api.Eq, op(api.Sel, op(api.Sto, a, x, num(0)), x), num(0)),
		"cup(s, sing(x)) sub s":    op(api.Subset, op(api.Cup, s, op(api.Sing, x)), s),
		"vlen(a) - -3 * x":         op(api.Sub, op(api.Len, a), neg(scale(3, x))),
		"ite(p, l, Nil)":           op(api.Ite, p, l, none),
	} {
		n, e := formula.Read(text, declared(), signed())
		if e != api.OK || !logic.Equal(n, want) || logic.Check(n, 0) != api.OK {
			t.Errorf("P2.3: Read(%q) is %v, %d, not %v", text, n, e, want)
		}
	}
}

func TestReadErrors(t *testing.T) {
	for text, want := range map[string]api.Errno{
		strings.Repeat("x", api.MaxText+1): api.ErrLimit,
		shut(91, "(", "w", ")"):            api.ErrLimit,
		many(api.MaxNest+1, "w", " + "):    api.ErrLimit,
		"":                                 api.ErrSyntax,
		"x <":                              api.ErrSyntax,
		"w + @":                            api.ErrSyntax,
		"len(x) y":                         api.ErrSyntax,
		"sing(x, y)":                       api.ErrSyntax,
		"w":                                api.ErrNone,
		"w + 1 <= s":                       api.ErrNone,
		"len":                              api.ErrNone,
		"x(1)":                             api.ErrNone,
		"len(w)":                           api.ErrNone,
		"x <= s":                           api.ErrForm,
		"len(x)":                           api.ErrForm,
		"len(l, l)":                        api.ErrForm,
		"Cons(p, l) = l":                   api.ErrForm,
		"x && p":                           api.ErrForm,
		"p = x":                            api.ErrForm,
	} {
		n, e := formula.Read(text, declared(), signed())
		if e != want || !logic.Equal(n, api.Node{}) {
			t.Errorf("P2.3: Read(%.40q) is %v, %d, not error %d", text, n, e, want)
		}
	}
	if _, e := formula.Read("x", nil, nil); e != api.ErrNone {
		t.Errorf("P2.3: no names at all: %d", e)
	}
}
