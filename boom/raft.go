package boom

import "slices"

// marks tell which cells are meant.
type marks [manyCells]bool

// raft is cells of a pond.
type raft struct {
	pond
	has marks
}

// newRaft returns the raft of so many cells of a pond.
func newRaft(p pond, cells []int) raft {
	r := raft{pond: p}
	for _, cell := range cells {
		r.has[cell] = true
	}
	return r
}

// holds reports whether a cell is in a raft.
func (r raft) holds(cell int) bool {
	return cell != beyond && r.has[cell]
}

// cells returns the cells of a raft, increasing.
func (r raft) cells() []int {
	return slices.Collect(only(r.all(), r.holds))
}

// encloses reports whether a raft holds all cells that are wanted, and none that is kept out.
func (r raft) encloses() bool {
	return every(r.Want, r.holds) && !slices.ContainsFunc(r.Keep, r.holds)
}

// sticks returns how many sticks are around a raft.
func (r raft) sticks() int {
	sticks := 0
	for _, cell := range r.cells() {
		for _, next := range r.neighbours(cell) {
			if !r.holds(next) {
				sticks++
			}
		}
	}
	return sticks
}
