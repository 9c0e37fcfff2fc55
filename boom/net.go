package boom

import "peavey/api"

// sides tell which sides of a cell are used.
type sides [manySides]bool

// net is a pond with as many ways as can be apart, and the cells that one more could still reach.
type net struct {
	pond
	over    map[side]bool // the sides over which ways go, each as one of the cell that they leave
	reached marks
}

// newNet returns the net of a pond. Ways are added one after another. One can go over a side of another one, the other way: then neither uses it, and from there each goes on as the other one did.
func newNet(p pond) *net {
	n := &net{pond: p, over: map[side]bool{}}
	for {
		w, found := n.search(n.isFree, n.Want...)
		if !found {
			return n
		}
		n.add(w)
	}
}

// isFree reports whether no way goes over a side as one of its cell.
func (n *net) isFree(s side) bool {
	return !n.over[s]
}

// isUsed reports whether a way goes over a side as one of its cell.
func (n *net) isUsed(s side) bool {
	return n.over[s]
}

// search returns a shortest way over sides that are let, from one of several cells to one that is kept out or over an edge, and whether there is one. It marks the cells that it reaches.
func (n *net) search(let func(side) bool, from ...int) (api.BoomWay, bool) {
	clear(n.reached[:])
	var ways []api.BoomWay
	for _, cell := range from {
		n.reached[cell] = true
		ways = append(ways, api.BoomWay{Cells: []int{cell}, Out: noEdge})
	}
	var found api.BoomWay
search:
	for i := 0; i < len(ways); i++ {
		w := ways[i]
		if n.isKept(end(w)) {
			found = w
			break search
		}
		for s, next := range n.neighbours(end(w)) {
			switch {
			case !let(s):
			case next == beyond:
				found = api.BoomWay{Cells: w.Cells, Out: s.at}
				break search
			case !n.reached[next]:
				n.reached[next] = true
				ways = append(ways, longer(w, next))
			}
		}
	}
	return found, len(found.Cells) > 0
}

// add lets a way go over its sides. Those over which another one goes the other way are free again.
func (n *net) add(w api.BoomWay) {
	for s := range n.uses(w) {
		if n.over[n.turned(s)] {
			delete(n.over, n.turned(s))
		} else {
			n.over[s] = true
		}
	}
}

// take takes a way out of the net.
func (n *net) take(w api.BoomWay) {
	for s := range n.uses(w) {
		delete(n.over, s)
	}
}

// leaving returns over which sides of a cell ways leave it.
func (n *net) leaving(cell int) sides {
	var used sides
	for s := range n.neighbours(cell) {
		used[s.at] = n.isUsed(s)
	}
	return used
}

// small returns the cells that one more way could reach. All best water holds them: it has no sticks but one on each way.
func (n *net) small() raft {
	n.search(n.isFree, n.Want...)
	return raft{n.pond, n.reached}
}

// large returns the cells from which one more way could not go on to an end. Best water holds no others, for the same reason.
func (n *net) large() raft {
	r := raft{pond: n.pond}
	for cell := range n.all() {
		_, found := n.search(n.isFree, cell)
		r.has[cell] = !found
	}
	return r
}

// ways takes all ways out of the net, and returns them. None goes into a cell that is wanted, so that what leaves one always leads to an end.
func (n *net) ways() []api.BoomWay {
	var ways []api.BoomWay
	for _, cell := range n.Want {
		for n.leaving(cell) != (sides{}) {
			w, _ := n.search(n.isUsed, cell)
			n.take(w)
			cells := make([]int, len(w.Cells))
			copy(cells, w.Cells)
			ways = append(ways, api.BoomWay{Cells: cells, Out: w.Out})
		}
	}
	return ways
}
