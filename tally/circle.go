package tally

import (
	"cmp"

	"peavey/api"
)

const (
	mostNodes  = mostTallies + 1
	notReached = 1 << 10
)

// way is how a node is reached.
type way struct {
	cost  int64
	links int
	last  link
}

// isNearer reports whether a way costs less than another one, or as much by fewer links.
func (w way) isNearer(other way) bool {
	return cmp.Or(cmp.Compare(w.cost, other.cost), cmp.Compare(w.links, other.links)) < 0
}

// ways returns the nearest way from a node to each one that is reached by links that are meant. No circle of these may cost less than 0.
func (b *book) ways(start node, isMeant func(link) bool) map[node]way {
	ways := map[node]way{}
	for t := range b.tallies {
		l := b.tally(t)
		ways[l.from], ways[l.to] = way{cost: notReached}, way{cost: notReached}
	}
	ways[start] = way{}
	for b.shorten(ways, isMeant) {
	}
	for n, w := range ways {
		if w.cost == notReached {
			delete(ways, n)
		}
	}
	return ways
}

// shorten goes on from each node along the links that are meant, and reports whether a way has become nearer.
func (b *book) shorten(ways map[node]way, isMeant func(link) bool) bool {
	isShorter := false
	for l := range b.links(isMeant) {
		before := ways[l.from]
		next := way{before.cost + b.cost(l), before.links + 1, l}
		if before.cost != notReached && next.isNearer(ways[l.to]) {
			ways[l.to] = next
			isShorter = true
		}
	}
	return isShorter
}

// circle returns the nearest circle that begins with a link, if it costs at most so much; otherwise an empty one.
func (b *book) circle(first link, most int64) []link {
	isOther := func(l link) bool { return l.isAside(first) }
	ways := b.ways(first.to, isOther)
	end, isReached := ways[first.from]
	if !isReached || b.room(first) == 0 || b.cost(first)+end.cost > most {
		return nil
	}
	var room [mostNodes]link
	circle := append(room[:0:len(ways)], first)
	for at := first.from; at != first.to; at = ways[at].last.from {
		circle = append(circle, ways[at].last)
	}
	return copied(circle)
}

// turn changes the table along a circle by as many logs as the costs of its links hold for.
func (b *book) turn(circle []link) {
	logs := least(circle, b.room)
	for _, l := range circle {
		if l.isCell {
			b.table[l.index] += l.step * logs
		}
	}
	b.count()
}

// push changes the table along circles that begin with a link and cost at most so much, until there is none.
func (b *book) push(first link, most int64) {
	for circle := b.circle(first, most); len(circle) > 0; circle = b.circle(first, most) {
		b.turn(circle)
	}
}

// settle makes the table wrong by as little as can be. The tallies count one after another; as each circle is the nearest one, no circle of those that count costs less than 0 afterwards.
func (b *book) settle() {
	for t := range b.tallies {
		b.counted++
		b.push(b.tally(t), -1)
		b.push(b.tally(t).back(), -1)
	}
}

// ends returns the least and the greatest number of what a link changes, in all tables that have the tallies, if the book's has.
func (b *book) ends(l link) api.Range {
	b.push(l, 0)
	hi, _ := b.state(l)
	b.push(l.back(), 0)
	lo, _ := b.state(l)
	return api.Range{Lo: lo, Hi: hi}
}

// sure returns the cells that no circle changes, if the table has the tallies.
func (b *book) sure() []int {
	var room [mostCells]int
	sure := room[:0:len(b.Cells)]
search:
	for cell := range b.Cells {
		for _, l := range [2]link{b.cell(cell), b.cell(cell).back()} {
			if len(b.circle(l, 0)) > 0 {
				continue search
			}
		}
		sure = append(sure, cell)
	}
	return copied(sure)
}
