package model

import (
	"cmp"
	"slices"

	"quantale/api"
	"quantale/logic"
)

// table has the entries of a valid model in the order in which they are looked up.
type table []api.Entry

// tableOf reports also whether the model is valid.
func tableOf(m api.Model) (table, bool) {
	if len(m) > maxEntries {
		return nil, false
	}
	for _, e := range m {
		if !validEntry(e) {
			return nil, false
		}
	}
	t := slices.Clone(table(m))
	slices.SortFunc(t, compareEntries)
	for i := 1; i < len(t); i++ {
		if compareEntries(t[i-1], t[i]) == 0 {
			return nil, false
		}
	}
	return t, true
}

func validEntry(e api.Entry) bool {
	if !logic.Name(e.Name) || len(e.Args) > api.MaxArgs || !value(e.Val).valid() {
		return false
	}
	for _, a := range e.Args {
		if !value(a).valid() {
			return false
		}
	}
	return true
}

// compareEntries orders entries by what they give a value: the name, the sort of the value, the arguments.
func compareEntries(a, b api.Entry) int {
	if c := cmp.Or(cmp.Compare(a.Name, b.Name), cmp.Compare(a.Val.Sort, b.Val.Sort)); c != 0 {
		return c
	}
	return slices.CompareFunc(a.Args, b.Args, func(x, y api.Val) int { return value(x).compare(value(y)) })
}

// find returns the value of a variable or of a function at arguments.
func (t table) find(name string, args []value, sort int) value {
	sought := api.Entry{Name: name, Val: api.Val{Sort: sort}}
	for _, a := range args {
		sought.Args = append(sought.Args, api.Val(a))
	}
	at, found := slices.BinarySearchFunc(t, sought, compareEntries)
	if !found {
		return standard(sort)
	}
	return value(t[at].Val)
}

func copyEntry(e api.Entry) api.Entry {
	if e.Args != nil {
		args := make([]api.Val, len(e.Args))
		for i, a := range e.Args {
			args[i] = copyOf(a)
		}
		e.Args = args
	}
	e.Val = copyOf(e.Val)
	return e
}

func copyModel(m api.Model) api.Model {
	l := make(api.Model, len(m))
	for i, e := range m {
		l[i] = copyEntry(e)
	}
	return l
}
