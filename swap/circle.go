package swap

import (
	"cmp"
	"iter"

	"peavey/api"
)

// ways yields a way of debts from a mill on to each one that it leads to, with as few mills as it can have; those with fewer mills first.
func (l *ledger) ways(start int, owes func(from, to int) bool) iter.Seq[[]int] {
	return func(yield func([]int) bool) {
		clear(l.marks[:])
		l.marks[start] = true
		for ways := [][]int{{start}}; len(ways) > 0; ways = ways[1:] {
			way := ways[0]
			if !yield(way) {
				return
			}
			for next := range l.Mills {
				if !l.marks[next] && owes(last(way), next) {
					l.marks[next] = true
					// Several ways grow out of this one.
					ways = append(ways, append(way[:len(way):len(way)], next))
				}
			}
		}
	}
}

// circles yields for each mill a circle that it is in, with as few mills as it can have, if there is one.
func (l *ledger) circles(owes func(from, to int) bool) iter.Seq[[]int] {
	return func(yield func([]int) bool) {
	search:
		for start := range l.Mills {
			for way := range l.ways(start, owes) {
				if !owes(last(way), start) {
					continue
				}
				if !yield(way) {
					return
				}
				continue search
			}
		}
	}
}

// circle returns a circle with the fewest mills; an empty one if there is none.
func (l *ledger) circle() []int {
	return greatest(l.circles(l.owes), func(one, two []int) int { return cmp.Compare(len(two), len(one)) })
}

// round yields the debts of a circle.
func (l *ledger) round(circle []int) iter.Seq[api.SwapDebt] {
	return func(yield func(api.SwapDebt) bool) {
		from := last(circle)
		for _, to := range circle {
			if !yield(api.SwapDebt{From: from, To: to, Sum: l.owed[from][to]}) {
				return
			}
			from = to
		}
	}
}

// strikeCircles takes the least debt of a circle off all debts of it, until there is no circle. Each time a debt is gone, and no balance is changed.
func (l *ledger) strikeCircles() {
	for circle := l.circle(); len(circle) > 0; circle = l.circle() {
		least := greatest(l.round(circle), func(one, two api.SwapDebt) int { return cmp.Compare(two.Sum, one.Sum) })
		for d := range l.round(circle) {
			l.owed[d.From][d.To] -= least.Sum
		}
	}
}
