package mark

import (
	"slices"

	"peavey/api"
)

// asking is marks that are asked for, in a register of their own, as if all of them were registered.
type asking struct {
	*register
	free    []int        // the indexes of those that are free in the office
	clashes map[pair]int // those between marks that are free
}

// ask returns what is known of marks that are asked for, or the error of the office or of the marks.
func ask(o api.MarkOffice, marks []int) (asking, api.Errno) {
	r, e := open(o)
	if e != api.OK {
		return asking{}, e
	}
	if len(marks) > api.MaxMarkOwners {
		return asking{}, api.ErrMany
	}
	if !within(1, allStrokes(o), marks...) {
		return asking{}, api.ErrRange
	}
	r.note(anyone)
	free := pick(0, len(marks)-1, func(index int) bool { return r.untaken(marks[index]) })
	o.Marks = marks
	a := asking{register: &register{MarkOffice: o}, free: free}
	a.clashes = a.clashing()
	for p := range a.clashes {
		// No family has a mark that is not free, so that it does not matter what it clashes with.
		if !slices.Contains(free, p.one) || !slices.Contains(free, p.two) {
			delete(a.clashes, p)
		}
	}
	return a, api.OK
}

// fits reports whether a free mark clashes with none of a family of marks before it.
func (a asking) fits(family []int, index int) bool {
	for _, member := range family {
		if _, clash := a.clashes[pair{member, index}]; clash {
			return false
		}
	}
	return true
}

// isFamily reports whether strictly increasing indexes are a family.
func (a asking) isFamily(list []int) bool {
	for i, index := range list {
		if !slices.Contains(a.free, index) || !a.fits(list[:i], index) {
			return false
		}
	}
	return true
}

// greatest returns the first one of the families with the most marks.
func (a asking) greatest() []int {
	best := make([]int, 0, len(a.free))
	var search func(family, rest []int)
	search = func(family, rest []int) {
		// Families come in lexicographic order: of those with equally many marks the first one stays.
		if len(family) > len(best) {
			best = best[:len(family)]
			copy(best, family)
		}
		for i, index := range rest {
			if len(family)+len(rest)-i <= len(best) {
				return
			}
			if a.fits(family, index) {
				search(append(family[:len(family):len(family)], index), rest[i+1:])
			}
		}
	}
	search(nil, a.free)
	return best
}
