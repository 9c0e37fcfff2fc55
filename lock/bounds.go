package lock

import (
	"cmp"
	"maps"
	"slices"

	"peavey/api"
)

// Both locks.
const (
	firstLock  = 1
	secondLock = 2
)

// proof is a lock and a time, whose bound no order is below.
type proof struct {
	lock int
	time int64
}

// inOrder compares proofs by lock, and then by time.
func inOrder(one, two proof) int {
	return cmp.Or(cmp.Compare(one.lock, two.lock), cmp.Compare(one.time, two.time))
}

// minutes returns how long a raft takes in a lock, and how long in the other one.
func minutes(r api.LockRaft, lock int) (int64, int64) {
	if lock == secondLock {
		return r.Second, r.First
	}
	return r.First, r.Second
}

// isTaken reports whether some raft takes at least the time in the lock.
func (c *canal) isTaken(p proof) bool {
	return slices.ContainsFunc(c.Rafts, func(r api.LockRaft) bool {
		here, _ := minutes(r, p.lock)
		return here >= p.time
	})
}

// bound returns the bound of a lock and a time.
func (c *canal) bound(p proof) int64 {
	bound := p.time
	for _, r := range c.Rafts {
		here, there := minutes(r, p.lock)
		if here < p.time {
			there = min(here, there)
		}
		bound += there
	}
	return bound
}

// bounds returns the bounds of the times that some raft takes. Between two of them, and below the least one, a bound only grows with the time, so no other time has the greatest one.
func (c *canal) bounds() map[proof]int64 {
	bounds := map[proof]int64{}
	for _, r := range c.Rafts {
		for _, p := range []proof{{firstLock, r.First}, {secondLock, r.Second}} {
			bounds[p] = c.bound(p)
		}
	}
	return bounds
}

// proof returns the first lock and time with the greatest bound.
func (c *canal) proof() proof {
	bounds := c.bounds()
	var greatest int64
	for _, bound := range bounds {
		greatest = max(greatest, bound)
	}
	for p, bound := range bounds {
		if bound < greatest {
			delete(bounds, p)
		}
	}
	return least(maps.Keys(bounds), inOrder)
}
