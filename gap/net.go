package gap

import (
	"iter"
	"slices"

	"peavey/api"
)

// The spots of a net: one where all pockets begin, one where they end, and for each log one before it and one after it.
const (
	begin = iota
	end
	firstLog
	spots = firstLog + 2*api.MaxGapLogs
)

// before is the spot before a log.
func before(log int) int { return firstLog + 2*log }

// after is the spot after a log.
func after(log int) int { return firstLog + 2*log + 1 }

// link leads from one spot to another one.
type link struct{ from, to int }

// turned returns a link that leads back.
func (l link) turned() link { return link{l.to, l.from} }

// marks tell how far a pocket is at each spot: how many logs more are taken on the best way there, and 1; 0 if there is no way.
type marks [spots]int

// net is the ways that pockets can go through the logs of a line.
type net struct {
	line
	flow map[link]bool // the links of pockets; each log is in one pocket at most, so that each link is
	far  marks
	last [spots]link // the last link of the best way to each spot
}

// newNet returns the net of a line, without pockets.
func newNet(l line) *net {
	return &net{line: l, flow: map[link]bool{}}
}

// links yields all links, and how many logs each takes.
func (n *net) links() iter.Seq2[link, int] {
	return func(yield func(link, int) bool) {
		// A pocket can stay empty.
		if !yield(link{begin, end}, 0) {
			return
		}
		for log := range n.wanted {
			if !yield(link{begin, before(log)}, 0) || !yield(link{before(log), after(log)}, 1) || !yield(link{after(log), end}, 0) {
				return
			}
			for later := range n.behind(log) {
				if !yield(link{after(log), before(later)}, 0) {
					return
				}
			}
		}
	}
}

// steps yields the links by which a further pocket can change what flows, and how many logs more each takes: those that have room, and those of pockets, turned.
func (n *net) steps() iter.Seq2[link, int] {
	return func(yield func(link, int) bool) {
		for l, logs := range n.links() {
			flows := n.flow[l]
			if flows && !yield(l.turned(), -logs) {
				return
			}
			if !(flows && logs > 0) && !yield(l, logs) {
				return
			}
		}
	}
}

// measure marks all spots, and finds the best ways there. All have one: links lead from the begin to the end and to each log, and from what a pocket flows to next it can be turned.
func (n *net) measure() {
	clear(n.far[:])
	n.far[begin] = 1
	for round := (marks{}); round != n.far; {
		round = n.far
		for l, logs := range n.steps() {
			if round[l.from] > 0 && round[l.from]+logs > n.far[l.to] {
				n.far[l.to], n.last[l.to] = round[l.from]+logs, l
			}
		}
	}
}

// send sends so many pockets through the net, one after another, each on a best way, until one takes no log more. It returns how many logs more each one takes.
func (n *net) send(many int) []int {
	var more []int
	for range many {
		n.measure()
		if n.far[end] == n.far[begin] {
			break
		}
		more = append(more, n.far[end]-n.far[begin])
		n.carry()
	}
	return more
}

// carry lets a pocket flow on the best way to the end.
func (n *net) carry() {
	for spot := end; spot != begin; spot = n.last[spot].from {
		l := n.last[spot]
		if n.flow[l.turned()] {
			delete(n.flow, l.turned())
		} else {
			n.flow[l] = true
		}
	}
}

// turning returns the pocket of each log, -1 for those that are let by.
func (n *net) turning() []int {
	turning := slices.Repeat([]int{-1}, len(n.wanted))
	pockets := 0
	for log := range n.wanted {
		if n.flow[link{begin, before(log)}] {
			turning[log] = pockets
			pockets++
		}
		for later := range n.behind(log) {
			if n.flow[link{after(log), before(later)}] {
				turning[later] = turning[log]
			}
		}
	}
	return turning
}

// runs returns runs that part the row, whose bound is how many logs the pockets that flow take.
//
// Marks never fall on a link between logs, so no two logs over which they rise from the same mark can be in a pocket: those are a run. Marks rise over each log that is let by, and over a log of a pocket by 1 at most; on the links between its logs they stay. So each pocket takes a log of each run, and all logs over which marks do not rise are in pockets: each of them is a run of its own.
func (n *net) runs() [][]int {
	n.measure()
	var runs [][]int
	for mark := n.far[begin]; mark < n.far[end]; mark++ {
		risesFrom := func(log int) bool { return n.rises(log) && n.far[before(log)] == mark }
		runs = append(runs, slices.Collect(only(n.logs(), risesFrom)))
	}
	for log := range only(n.logs(), n.stays) {
		runs = append(runs, []int{log})
	}
	return runs
}

// rises reports whether marks rise over a log.
func (n *net) rises(log int) bool {
	return n.far[after(log)] > n.far[before(log)]
}

// stays reports whether marks do not rise over a log.
func (n *net) stays(log int) bool {
	return !n.rises(log)
}
