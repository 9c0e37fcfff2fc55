package boom

import (
	"iter"
	"slices"

	"peavey/api"
)

// manyCells is how many cells a pond has at most.
const manyCells = api.MaxBoomSide * api.MaxBoomSide

// beyond is what lies at a side of a cell at the edge, where there is no cell.
const beyond = -1

// The sides of a cell, numbered as the edges of a pond are.
const (
	right = iota
	above
	left
	below
	manySides
)

// side is one side of a cell.
type side struct{ cell, at int }

// pond is a pond that is valid.
type pond struct{ api.BoomPond }

// open returns a pond, or its error.
func open(p api.BoomPond) (pond, api.Errno) {
	if e := CheckPond(p); e != api.OK {
		return pond{}, e
	}
	return pond{p}, api.OK
}

// lists reports whether a list is strictly increasing, and of cells.
func (p pond) lists(list []int) bool {
	return p.areCells(list...) && strictlyIncreasing(list)
}

// areCells reports whether all numbers are those of cells.
func (p pond) areCells(numbers ...int) bool {
	return within(0, p.Wide*p.High-1, numbers...)
}

// isWanted reports whether a cell is wanted.
func (p pond) isWanted(cell int) bool {
	return slices.Contains(p.Want, cell)
}

// isKept reports whether a cell is kept out.
func (p pond) isKept(cell int) bool {
	return slices.Contains(p.Keep, cell)
}

// all yields all cells.
func (p pond) all() iter.Seq[int] {
	return func(yield func(int) bool) {
		for cell := range p.Wide * p.High {
			if !yield(cell) {
				return
			}
		}
	}
}

// behind returns the cell behind a side, or beyond.
func (p pond) behind(s side) int {
	x, y := s.cell%p.Wide, s.cell/p.Wide
	switch s.at {
	case right:
		x++
	case above:
		y++
	case left:
		x--
	case below:
		y--
	}
	if !within(0, p.Wide-1, x) || !within(0, p.High-1, y) {
		return beyond
	}
	return y*p.Wide + x
}

// turned returns a side as one of the cell behind it. (As one of what is beyond an edge no way leaves over it.)
func (p pond) turned(s side) side {
	return side{p.behind(s), (s.at + manySides/2) % manySides}
}

// neighbours yields the sides of a cell, and what is behind each.
func (p pond) neighbours(cell int) iter.Seq2[side, int] {
	return func(yield func(side, int) bool) {
		for at := range manySides {
			s := side{cell, at}
			if !yield(s, p.behind(s)) {
				return
			}
		}
	}
}

// between returns the side of a cell behind which another one is, and whether there is one.
func (p pond) between(cell, other int) (side, bool) {
	for s, next := range p.neighbours(cell) {
		if next == other {
			return s, true
		}
	}
	return side{}, false
}
