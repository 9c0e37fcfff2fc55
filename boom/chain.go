package boom

import (
	"strings"

	"peavey/api"
)

// fewestSticks is how many sticks a chain has at least.
const fewestSticks = 4

// corner is where sticks meet.
type corner struct{ x, y int }

// isWithin reports whether a corner is one of the widest and highest pond.
func (c corner) isWithin() bool {
	return within(0, api.MaxBoomSide, c.x, c.y)
}

// chain is sticks from a corner on.
type chain struct{ api.BoomChain }

// isStick reports whether a letter is that of a stick.
func isStick(letter byte) bool {
	return strings.IndexByte("ENWS", letter) >= 0
}

// corners returns the first corner and the one at the end of each stick.
func (c chain) corners() []corner {
	at := corner{c.X, c.Y}
	corners := []corner{at}
	for _, stick := range []byte(c.Sticks) {
		switch stick {
		case 'E':
			at.x++
		case 'N':
			at.y++
		case 'W':
			at.x--
		case 'S':
			at.y--
		}
		corners = append(corners, at)
	}
	return corners
}

// staysWithin reports whether all corners are those of the widest and highest pond.
func (c chain) staysWithin() bool {
	return every(c.corners(), corner.isWithin)
}

// isClosed reports whether a chain comes back to its first corner, and to none before.
func (c chain) isClosed() bool {
	corners := c.corners()
	first, later := corners[0], corners[1:]
	met := map[corner]bool{}
	for _, at := range later {
		if met[at] {
			return false
		}
		met[at] = true
	}
	return later[len(later)-1] == first
}

// water returns the cells that a chain goes round, and whether they are on its left.
func (c chain) water() (raft, bool) {
	var round [manyCells]int // 1 for each cell that the chain goes round to the left, -1 to the right
	corners := c.corners()
	for i, to := range corners[1:] {
		from := corners[i]
		row := min(from.y, to.y) * api.MaxBoomSide
		// All cells of the row from a stick on are on its left if it leads down; for those outside, another one leads up again.
		for x := from.x; x < api.MaxBoomSide; x++ {
			if from.y != to.y {
				round[row+x] += from.y - to.y
			}
		}
	}
	water := raft{pond: pond{api.BoomPond{Wide: api.MaxBoomSide, High: api.MaxBoomSide}}}
	onLeft := false
	for cell, times := range round {
		water.has[cell] = times != 0
		onLeft = onLeft || times > 0
	}
	return water, onLeft
}
