package mark

import (
	"iter"
	"slices"

	"peavey/api"
)

// register is an office that is valid, and the worn marks that are noted.
type register struct {
	api.MarkOffice
	taken []bool // by worn mark: it can be that of an owner who was meant
}

// pair is two owners, the lesser one first.
type pair struct {
	one, two int
}

// losses is how many strokes are lost to the mark of each owner.
type losses [api.MaxMarkOwners]int

// open returns the register of an office, or the error of the office, or ErrArg if one of the owners is none.
func open(o api.MarkOffice, owners ...int) (*register, api.Errno) {
	if e := CheckOffice(o); e != api.OK {
		return nil, e
	}
	if !within(0, len(o.Marks)-1, owners...) {
		return nil, api.ErrArg
	}
	return &register{MarkOffice: o, taken: make([]bool, allStrokes(o)+1)}, api.OK
}

// allStrokes returns the set of all strokes of an office.
func allStrokes(o api.MarkOffice) int {
	return 1<<o.Strokes - 1
}

// canBe reports whether a worn mark can be that of an owner.
func (r *register) canBe(worn, owner int) bool {
	mark := r.Marks[owner]
	return contains(mark, worn) && count(mark&^worn) <= r.Loss
}

// pairs yields all pairs of owners, in lexicographic order.
func (r *register) pairs() iter.Seq[pair] {
	return func(yield func(pair) bool) {
		for one := range r.Marks {
			for two := one + 1; two < len(r.Marks); two++ {
				if !yield(pair{one, two}) {
					return
				}
			}
		}
	}
}

// shared returns the strokes that both marks have. If any worn mark can be both, this one can, and it has the most strokes.
func (r *register) shared(p pair) int {
	return r.Marks[p.one] & r.Marks[p.two]
}

// lost returns how many strokes both marks lose down to those that they share; no other mark loses any.
func (r *register) lost(p pair) losses {
	var lost losses
	lost[p.one] = count(r.Marks[p.one] &^ r.shared(p))
	lost[p.two] = count(r.Marks[p.two] &^ r.shared(p))
	return lost
}

// clashing returns all pairs whose marks clash, each with the worn mark with the most strokes that can be both.
func (r *register) clashing() map[pair]int {
	clashes := map[pair]int{}
	for p := range r.pairs() {
		if lost := r.lost(p); slices.Max(lost[:]) <= r.Loss {
			clashes[p] = r.shared(p)
		}
	}
	return clashes
}

// margin returns the greatest Loss with which all marks would be apart, -1 if there is none.
func (r *register) margin() int {
	margin := r.Strokes
	for p := range r.pairs() {
		lost := r.lost(p)
		if lost == (losses{}) {
			return -1 // equal marks clash, whatever the Loss
		}
		margin = min(margin, slices.Max(lost[:])-1)
	}
	return margin
}

// note notes which worn marks can be that of an owner who is meant, and forgets what was noted before.
func (r *register) note(meant func(owner int) bool) {
	clear(r.taken)
	for owner, mark := range r.Marks {
		if !meant(owner) {
			continue
		}
		for worn := range wornMarks(mark, r.Loss) {
			r.taken[worn] = true
		}
	}
}

// anyone means all owners.
func anyone(int) bool {
	return true
}

// untaken reports whether no worn mark of a mark is noted.
func (r *register) untaken(mark int) bool {
	for worn := range wornMarks(mark, r.Loss) {
		if r.taken[worn] {
			return false
		}
	}
	return true
}

// told returns the most losses, up to Loss, after which an owner is still told, -1 if there are none.
func (r *register) told(owner int) int {
	r.note(func(other int) bool { return other != owner })
	mark, told := r.Marks[owner], r.Loss
	for worn := range wornMarks(mark, r.Loss) {
		if r.taken[worn] {
			told = min(told, count(mark&^worn)-1)
		}
	}
	return told
}

// telling yields all sets of strokes that tell an owner.
func (r *register) telling(owner int) iter.Seq[int] {
	return func(yield func(int) bool) {
	search:
		for strokes := range wornMarks(r.Marks[owner], r.Strokes) {
			for other, mark := range r.Marks {
				if other != owner && contains(mark, strokes) {
					continue search
				}
			}
			if !yield(strokes) {
				return
			}
		}
	}
}
