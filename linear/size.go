package linear

import "quantale/api"

const (
	// maxSteps is the greatest number of steps and splits of a derivation.
	maxSteps = 2000
	// maxDeep is the greatest number of derivations that lie within each other.
	maxDeep = 60
)

// size is the number of steps and splits of derivations in all, and of those that lie within each other.
type size struct{ count, deep int }

// list is a list of kids as it stands in memory.
type list struct {
	first *api.Deriv
	count int
}

// sizes are those of lists that have been counted. Kids without steps and splits take nothing of a limit: where they share their parts, a derivation that is small in memory may have too many for a walk through all of them.
type sizes map[list]size

// within reports whether a derivation keeps the limits.
func within(d api.Deriv) bool {
	_, ok := sizes{}.of(d, maxDeep)
	return ok
}

// of returns the size of a derivation that may nest so deep, and false if it does not keep the limits.
func (z sizes) of(d api.Deriv, room int) (size, bool) {
	if room == 0 {
		return size{}, false
	}
	s, ok := z.ofKids(d.Kids, room-1)
	s.count += len(d.Steps)
	if d.Split {
		s.count++
	}
	s.deep++
	return s, ok && s.count <= maxSteps
}

// ofKids is of for a list: its size has the steps and splits of all, and the depth of the deepest.
func (z sizes) ofKids(kids []api.Deriv, room int) (size, bool) {
	if len(kids) == 0 {
		return size{}, true
	}
	at := list{&kids[0], len(kids)}
	all, known := z[at]
	if known {
		return all, all.deep <= room
	}
	for _, k := range kids {
		s, ok := z.of(k, room)
		all = size{all.count + s.count, max(all.deep, s.deep)}
		if !ok || all.count > maxSteps {
			return size{}, false
		}
	}
	z[at] = all
	return all, true
}
