// Package mark is layer 1: see shared/doc/01-mark.md.
package mark

import (
	"maps"

	"peavey/api"
)

// CheckOffice reports whether an office is valid. (P1.1)
func CheckOffice(o api.MarkOffice) api.Errno {
	switch {
	case !within(1, api.MaxMarkStrokes, o.Strokes), !within(0, o.Strokes, o.Loss):
		return api.ErrRange
	case len(o.Marks) > api.MaxMarkOwners:
		return api.ErrMany
	case !within(1, allStrokes(o), o.Marks...):
		return api.ErrArg
	}
	return api.OK
}

// Owners returns the owners of a worn mark. (P1.2)
func Owners(o api.MarkOffice, worn int) ([]int, api.Errno) {
	r, e := open(o)
	if e != api.OK {
		return nil, e
	}
	if !within(0, allStrokes(o), worn) {
		return nil, api.ErrRange
	}
	return pick(0, len(r.Marks)-1, func(owner int) bool { return r.canBe(worn, owner) }), api.OK
}

// Clash returns a worn mark that can be both. (P1.3)
func Clash(o api.MarkOffice, one, two int) (int, api.Errno) {
	r, e := open(o, one, two)
	if e != api.OK {
		return 0, e
	}
	if one == two {
		return 0, api.ErrRule
	}
	worn, clash := r.clashing()[pair{min(one, two), max(one, two)}]
	if !clash {
		return 0, api.ErrNone
	}
	return worn, api.OK
}

// Apart reports whether all marks are apart. (P1.3)
func Apart(o api.MarkOffice) (int, int, api.Errno) {
	r, e := open(o)
	if e != api.OK {
		return 0, 0, e
	}
	p, clash := first(maps.Keys(r.clashing()), inOrder)
	if !clash {
		return 0, 0, api.OK
	}
	return p.one, p.two, api.ErrMark
}

// Margin returns how many strokes may be lost. (P1.4)
func Margin(o api.MarkOffice) (int, api.Errno) {
	r, e := open(o)
	if e != api.OK {
		return 0, e
	}
	return r.margin(), api.OK
}

// Told returns after how many losses an owner is told. (P1.5)
func Told(o api.MarkOffice, owner int) (int, api.Errno) {
	r, e := open(o, owner)
	if e != api.OK {
		return 0, e
	}
	return r.told(owner), api.OK
}

// Keep returns the fewest strokes that tell an owner. (P1.6)
func Keep(o api.MarkOffice, owner int) (int, api.Errno) {
	r, e := open(o, owner)
	if e != api.OK {
		return 0, e
	}
	strokes, tell := first(r.telling(owner), fewest)
	if !tell {
		return 0, api.ErrMark
	}
	return strokes, api.OK
}

// Free returns all marks that are free. (P1.7)
func Free(o api.MarkOffice) ([]int, api.Errno) {
	r, e := open(o)
	if e != api.OK {
		return nil, e
	}
	r.note(anyone)
	return pick(1, allStrokes(o), r.untaken), api.OK
}

// CheckFamily reports whether marks are a family. (P1.8)
func CheckFamily(o api.MarkOffice, marks, family []int) api.Errno {
	a, e := ask(o, marks)
	if e != api.OK {
		return e
	}
	if !within(0, len(marks)-1, family...) || !strictlyIncreasing(family) {
		return api.ErrRule
	}
	if !a.isFamily(family) {
		return api.ErrMark
	}
	return api.OK
}

// Family returns a greatest family. (P1.8)
func Family(o api.MarkOffice, marks []int) ([]int, api.Errno) {
	a, e := ask(o, marks)
	if e != api.OK {
		return nil, e
	}
	return a.greatest(), api.OK
}
