package omega

import (
	"maps"
	"slices"

	"quantale/api"
)

// proof returns the steps that make a row and all kept ones that it is made of, in order, and the rows that are given, over the atoms, with the results of the steps behind them. For a row that is given there are no steps.
func (t *table) proof(target int, given []row) (steps [][]api.Mult, known []row) {
	sums := t.sums(target)
	if t.failed {
		return nil, nil
	}
	u := newTable(t.search, given)
	number := map[int]int{}
	for _, at := range slices.Sorted(maps.Keys(sums)) {
		step := sums[at]
		for i, m := range step {
			if m.Index >= t.given {
				step[i].Index = number[m.Index]
			}
		}
		number[at] = u.derive(step...)
		u.rows[number[at]].assumed = t.rows[at].assumed
		steps = append(steps, step)
	}
	t.failed = u.failed
	return steps, u.rows
}

// sums returns what a row, and each kept row below it that is not given, is the sum of.
func (t *table) sums(target int) map[int][]api.Mult {
	l := map[int][]api.Mult{}
	work := []int{target}
	for len(work) > 0 && !t.failed {
		at := work[len(work)-1]
		work = work[:len(work)-1]
		if at < t.given || l[at] != nil {
			continue
		}
		l[at] = t.flatten(at)
		for _, m := range l[at] {
			work = append(work, m.Index)
		}
		t.failed = t.failed || len(l) > maxSteps
	}
	return l
}

// flatten returns the multiples of kept rows that a row is the sum of.
func (t *table) flatten(target int) []api.Mult {
	weights := map[int]int64{target: 1}
	for _, at := range slices.Backward(t.parts(target)) {
		w := weights[at]
		delete(weights, at)
		for _, m := range t.rows[at].made {
			weights[m.Index] += m.Coef * w
		}
	}
	var l []api.Mult
	for _, at := range slices.Sorted(maps.Keys(weights)) {
		if weights[at] != 0 {
			l = append(l, api.Mult{Index: at, Coef: weights[at]})
		}
	}
	return l
}

// parts returns the numbers, in order, of a row and of the rows below it down to those that are kept.
func (t *table) parts(target int) []int {
	seen := map[int]bool{target: true}
	work := []int{target}
	for len(work) > 0 {
		at := work[len(work)-1]
		work = work[:len(work)-1]
		for _, m := range t.rows[at].made {
			if !seen[m.Index] && !t.rows[m.Index].kept {
				seen[m.Index] = true
				work = append(work, m.Index)
			}
		}
	}
	t.spend(len(seen))
	return slices.Sorted(maps.Keys(seen))
}
