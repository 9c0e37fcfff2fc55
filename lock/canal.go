package lock

import (
	"iter"
	"slices"

	"peavey/api"
)

// notThrough is what stands for the minute when a raft is through if it is not towed.
const notThrough = -1

// times is when each raft is through.
type times [api.MaxLockRafts]int64

// noRaft is the times when no raft is towed.
func noRaft() times {
	var t times
	for raft := range t {
		t[raft] = notThrough
	}
	return t
}

// last returns when all rafts that are towed are through.
func (t times) last() int64 {
	if t == noRaft() {
		return 0
	}
	return slices.Max(t[:])
}

// canal is both locks with a tow that is valid.
type canal struct {
	api.LockTow
	marks [api.MaxLockRafts]bool
}

// open returns the canal of a tow, or the error of the tow.
func open(t api.LockTow) (*canal, api.Errno) {
	if e := CheckTow(t); e != api.OK {
		return nil, e
	}
	return &canal{LockTow: t}, api.OK
}

// openInOrder returns the canal of a tow with an order, or the error of the tow, or of the order.
func openInOrder(t api.LockTow, order []int) (*canal, api.Errno) {
	c, e := open(t)
	switch {
	case e != api.OK:
		return nil, e
	case !c.isOrder(order):
		return nil, api.ErrRule
	}
	return c, api.OK
}

// withRoom returns a canal with the same rafts, and another Room.
func (c *canal) withRoom(room int) *canal {
	return &canal{LockTow: api.LockTow{Rafts: c.Rafts, Room: room}}
}

// rafts yields the rafts that are meant, increasing.
func (c *canal) rafts(isMeant func(raft int) bool) iter.Seq[int] {
	return func(yield func(int) bool) {
		for raft := range c.Rafts {
			if isMeant(raft) && !yield(raft) {
				return
			}
		}
	}
}

// through returns when the rafts of an order are through.
func (c *canal) through(order []int) times {
	through := noRaft()
	// By place in the order: when a raft has gone into the second lock.
	var gone [api.MaxLockRafts]int64
	var left int64
	for place, raft := range order {
		done := left + c.Rafts[raft].First
		gone[place] = max(done, through.last())
		through[raft] = gone[place] + c.Rafts[raft].Second
		left = done
		// Without room this is the raft itself.
		if before := place - c.Room; before >= 0 {
			left = max(done, gone[before])
		}
	}
	return through
}

// time returns the time of an order.
func (c *canal) time(order []int) int64 {
	return c.through(order).last()
}

// enough returns the least Room with which the best time is as with the most Room.
func (c *canal) enough() int {
	best := c.withRoom(api.MaxLockRoom).best()
	room := 0
	for c.withRoom(room).best() > best {
		room++
	}
	return room
}
