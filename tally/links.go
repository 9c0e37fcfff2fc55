package tally

import (
	"iter"

	"peavey/api"
)

// The kinds of nodes. Logs come from the river to their owners, go from these into pockets, and from the pockets to the boom; all of them go around from there to the river.
const (
	atRiver = iota
	atOwner
	atPocket
	atBoom
)

// node is a place where as many logs come in as go out; of some kinds there are several.
type node struct{ kind, index int }

// link is a change of a tally's sum, or of a cell: with the step 1 logs go from one node to the other one, with the step -1 they go back.
type link struct {
	from, to node
	isCell   bool
	index    int
	step     int64
}

// tally returns the link by which a tally gets more.
func (b *book) tally(t int) link {
	l := link{index: t, step: 1}
	switch pocket := t - len(b.Owners); {
	case pocket < 0:
		l.from, l.to = node{kind: atRiver}, node{atOwner, t}
	case pocket < len(b.Pockets):
		l.from, l.to = node{atPocket, pocket}, node{kind: atBoom}
	default:
		l.from, l.to = node{kind: atBoom}, node{kind: atRiver}
	}
	return l
}

// cell returns the link by which a cell gets more.
func (b *book) cell(cell int) link {
	owner, pocket := cell/len(b.Pockets), cell%len(b.Pockets)
	return link{from: node{atOwner, owner}, to: node{atPocket, pocket}, isCell: true, index: cell, step: 1}
}

// back returns the link by which what a link changes is changed back.
func (l link) back() link {
	l.from, l.to, l.step = l.to, l.from, -l.step
	return l
}

// isAside reports whether a link changes something other than another one.
func (l link) isAside(other link) bool {
	return l.isCell != other.isCell || l.index != other.index
}

// links yields all links along which the table can change, of those that are meant.
func (b *book) links(isMeant func(link) bool) iter.Seq[link] {
	return func(yield func(link) bool) {
		goOn := func(l link) bool { return !isMeant(l) || b.room(l) == 0 || yield(l) }
		for t := range b.tallies {
			if l := b.tally(t); !goOn(l) || !goOn(l.back()) {
				return
			}
		}
		for cell := range b.Cells {
			if l := b.cell(cell); !goOn(l) || !goOn(l.back()) {
				return
			}
		}
	}
}

// state returns how many logs there are of what a link changes, and the range of it.
func (b *book) state(l link) (int64, api.Range) {
	if l.isCell {
		return b.table[l.index], b.Cells[l.index]
	}
	return b.sums[l.index], b.tallies[l.index]
}

// isRightAnyhow reports whether a link changes a tally that does not count yet.
func (b *book) isRightAnyhow(l link) bool {
	return !l.isCell && l.index >= b.counted
}

// change returns by how much the table is more wrong for each log that changes along a link, and for how many logs this holds; 0 if none can change.
func (b *book) change(l link) (cost, room int64) {
	logs, right := b.state(l)
	if l.step < 0 {
		logs, right = -logs, api.Range{Lo: -right.Hi, Hi: -right.Lo}
	}
	switch {
	case b.isRightAnyhow(l):
		return 0, mostLogs
	case logs < right.Lo:
		return -1, right.Lo - logs
	case logs < right.Hi:
		return 0, right.Hi - logs
	case l.isCell:
		return 0, 0
	}
	return 1, mostLogs
}

// cost returns by how much the table is more wrong for each log that changes along a link.
func (b *book) cost(l link) int64 {
	cost, _ := b.change(l)
	return cost
}

// room returns for how many logs that change along a link its cost holds.
func (b *book) room(l link) int64 {
	_, room := b.change(l)
	return room
}
