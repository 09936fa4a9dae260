package model_test

import (
	"maps"
	"math/big"
	"slices"

	"quantale/api"
	"quantale/logic"
)

// thing is a value in another shape: numbers of any size, sets and arrays as maps.
type thing struct {
	sort int
	num  *big.Int
	set  map[int64]bool
	arr  map[int64]int64
}

func thingOf(v api.Val) thing {
	x := thing{sort: v.Sort, num: big.NewInt(v.Num), set: map[int64]bool{}, arr: map[int64]int64{}}
	for _, n := range v.Set {
		x.set[n] = true
	}
	for k, n := range v.At {
		x.arr[n] = v.To[k]
	}
	return x
}

func (x thing) equal(y thing) bool {
	return x.sort == y.sort && x.num.Cmp(y.num) == 0 && maps.Equal(x.set, y.set) && maps.Equal(x.arr, y.arr)
}

func (x thing) beyond() bool {
	return x.num.CmpAbs(big.NewInt(most)) > 0 || len(x.set) > 200 || len(x.arr) > 200
}

func (x thing) val() api.Val {
	v := api.Val{Sort: x.sort, Num: x.num.Int64(), Set: slices.Sorted(maps.Keys(x.set)), At: slices.Sorted(maps.Keys(x.arr))}
	for _, n := range v.At {
		v.To = append(v.To, x.arr[n])
	}
	return v
}

// reference evaluates by the words of the chapter, in the plainest way; false if something is beyond the limits.
func reference(n api.Node, m api.Model) (thing, bool) {
	var kids []thing
	for _, k := range n.Kids {
		x, ok := reference(k, m)
		if !ok {
			return thing{}, false
		}
		kids = append(kids, x)
	}
	var x thing
	switch logic.Sort(n) {
	case api.SBool:
		x = thingOf(truth(false))
		if refTrue(n, kids, m) {
			x = thingOf(truth(true))
		}
	default:
		x = refTerm(n, kids, m)
	}
	return x, !x.beyond()
}

func refEntry(n api.Node, kids []thing, m api.Model) thing {
	for _, e := range m {
		if e.Name == n.Name && e.Val.Sort == n.Sort && slices.EqualFunc(e.Args, kids, func(v api.Val, x thing) bool { return thingOf(v).equal(x) }) {
			return thingOf(e.Val)
		}
	}
	return thingOf(api.Val{Sort: n.Sort})
}

func refTerm(n api.Node, kids []thing, m api.Model) thing {
	x := thingOf(api.Val{Sort: logic.Sort(n)})
	switch n.Op {
	case api.Var, api.App:
		return refEntry(n, kids, m)
	case api.Int:
		x.num.SetInt64(n.Num)
	case api.Add:
		x.num.Add(kids[0].num, kids[1].num)
	case api.Sub:
		x.num.Sub(kids[0].num, kids[1].num)
	case api.Neg:
		x.num.Neg(kids[0].num)
	case api.Scale:
		x.num.Mul(big.NewInt(n.Num), kids[0].num)
	case api.Ite:
		if kids[0].num.Sign() > 0 {
			return kids[1]
		}
		return kids[2]
	case api.Sing:
		x.set[kids[0].num.Int64()] = true
	case api.Cup:
		maps.Copy(x.set, kids[0].set)
		maps.Copy(x.set, kids[1].set)
	case api.Cap, api.Minus:
		maps.Copy(x.set, kids[0].set)
		maps.DeleteFunc(x.set, func(k int64, _ bool) bool { return kids[1].set[k] == (n.Op == api.Minus) })
	case api.Sel:
		x.num.SetInt64(kids[0].arr[kids[1].num.Int64()])
	case api.Len:
		x.num = kids[0].num
	case api.Sto:
		x.num = kids[0].num
		maps.Copy(x.arr, kids[0].arr)
		x.arr[kids[1].num.Int64()] = kids[2].num.Int64()
		maps.DeleteFunc(x.arr, func(_, v int64) bool { return v == 0 })
	}
	return x
}

func refTrue(n api.Node, kids []thing, m api.Model) bool {
	is := func(k int) bool { return kids[k].num.Sign() > 0 }
	switch n.Op {
	case api.Var, api.App:
		return refEntry(n, kids, m).num.Sign() > 0
	case api.True:
		return true
	case api.Not:
		return !is(0)
	case api.And:
		return is(0) && is(1)
	case api.Or:
		return is(0) || is(1)
	case api.Imp:
		return !is(0) || is(1)
	case api.Iff:
		return is(0) == is(1)
	case api.Eq:
		return kids[0].equal(kids[1])
	case api.Le:
		return kids[0].num.Cmp(kids[1].num) <= 0
	case api.Lt:
		return kids[0].num.Cmp(kids[1].num) < 0
	case api.Mem:
		return kids[1].set[kids[0].num.Int64()]
	case api.Subset:
		for k := range kids[0].set {
			if !kids[1].set[k] {
				return false
			}
		}
		return true
	}
	return false
}
