package boom

import (
	"iter"

	"peavey/api"
)

// noEdge is the edge of a way that ends in a cell that is kept out.
const noEdge = -1

// isLong reports whether a way has neither too few cells nor too many.
func isLong(w api.BoomWay) bool {
	return within(1, api.MaxBoomWay, len(w.Cells))
}

// end is the last cell of a way.
func end(w api.BoomWay) int {
	return w.Cells[len(w.Cells)-1]
}

// longer returns a way with one cell more. Several ways can begin with the same cells; none may be written over another one.
func longer(w api.BoomWay, cell int) api.BoomWay {
	return api.BoomWay{Cells: append(w.Cells[:len(w.Cells):len(w.Cells)], cell), Out: noEdge}
}

// hasCells reports whether a way is over cells, and its edge is one of the four or none.
func (p pond) hasCells(w api.BoomWay) bool {
	return p.areCells(w.Cells...) && within(noEdge, manySides-1, w.Out)
}

// isWay reports whether cells with an edge are a way.
func (p pond) isWay(w api.BoomWay) bool {
	for i, cell := range w.Cells[1:] {
		if _, found := p.between(w.Cells[i], cell); !found {
			return false
		}
	}
	return p.isWanted(w.Cells[0]) && p.endsRight(w)
}

// endsRight reports whether a way ends in a cell that is kept out, or at the edge that it tells.
func (p pond) endsRight(w api.BoomWay) bool {
	if w.Out == noEdge {
		return p.isKept(end(w))
	}
	return p.behind(side{end(w), w.Out}) == beyond
}

// uses yields the sides that a way uses, each as one of the cell that it leaves there.
func (p pond) uses(w api.BoomWay) iter.Seq[side] {
	return func(yield func(side) bool) {
		for i, cell := range w.Cells[1:] {
			s, _ := p.between(w.Cells[i], cell)
			if !yield(s) {
				return
			}
		}
		if w.Out != noEdge {
			yield(side{end(w), w.Out})
		}
	}
}

// areApart reports whether ways use no side twice.
func (p pond) areApart(ways []api.BoomWay) bool {
	used := map[side]bool{}
	for _, w := range ways {
		for s := range p.uses(w) {
			if used[s] || used[p.turned(s)] {
				return false
			}
			used[s] = true
		}
	}
	return true
}
