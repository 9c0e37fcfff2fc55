package lock

import (
	"cmp"
	"iter"
	"slices"

	"peavey/api"
)

// isOrder reports whether a list has each raft once.
func (c *canal) isOrder(order []int) bool {
	if len(order) != len(c.Rafts) || !within(0, len(c.Rafts)-1, order...) {
		return false
	}
	clear(c.marks[:])
	for _, raft := range order {
		if c.marks[raft] {
			return false
		}
		c.marks[raft] = true
	}
	return true
}

// orders yields all orders that begin with some rafts, in lexicographic order.
func (c *canal) orders(begin ...int) iter.Seq[[]int] {
	return func(yield func([]int) bool) {
		if len(begin) == len(c.Rafts) {
			yield(begin)
			return
		}
		isLeft := func(raft int) bool { return !slices.Contains(begin, raft) }
		for raft := range c.rafts(isLeft) {
			// Several orders grow out of this beginning.
			longer := append(begin[:len(begin):len(begin)], raft)
			for order := range c.orders(longer...) {
				if !yield(order) {
					return
				}
			}
		}
	}
}

// order returns the first best order.
func (c *canal) order() []int {
	return least(c.orders(), func(one, two []int) int { return cmp.Compare(c.time(one), c.time(two)) })
}

// best returns the best time.
func (c *canal) best() int64 {
	return c.time(c.order())
}

// firsts returns the rafts that are the first one of some best order.
func (c *canal) firsts() []int {
	var room [api.MaxLockRafts]int
	firsts := room[:0:len(c.Rafts)]
	best := c.best()
search:
	for first := range c.Rafts {
		for order := range c.orders(first) {
			if c.time(order) == best {
				firsts = append(firsts, first)
				continue search
			}
		}
	}
	return copied(firsts)
}

// isEarly reports whether a raft takes no longer in the first lock than in the second one.
func (c *canal) isEarly(raft int) bool {
	return c.Rafts[raft].First <= c.Rafts[raft].Second
}

// isLate reports whether a raft takes longer in the first lock than in the second one.
func (c *canal) isLate(raft int) bool {
	return !c.isEarly(raft)
}

// rule returns the rule's order.
func (c *canal) rule() []int {
	rising := func(one, two int) int { return cmp.Compare(c.Rafts[one].First, c.Rafts[two].First) }
	falling := func(one, two int) int { return cmp.Compare(c.Rafts[two].Second, c.Rafts[one].Second) }
	early := slices.SortedStableFunc(c.rafts(c.isEarly), rising)
	late := slices.SortedStableFunc(c.rafts(c.isLate), falling)
	return append(early, late...)
}
