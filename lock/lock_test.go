package lock_test

import (
	"math"
	"slices"
	"testing"

	"peavey/api"
	"peavey/lock"
)

func list(x ...int) []int      { return x }
func times(x ...int64) []int64 { return x }

// tow is a tow with its Room, and with rafts of two numbers each.
func tow(room int, x ...int64) api.LockTow {
	t := api.LockTow{Room: room}
	for r := range slices.Chunk(x, 2) {
		t.Rafts = append(t.Rafts, api.LockRaft{First: r[0], Second: r[1]})
	}
	return t
}

// again is a tow of so many rafts that take the same time.
func again(many, room int, first, second int64) api.LockTow {
	return tow(room, slices.Repeat(times(first, second), many)...)
}

// tows L, N and O of the chapter.
func towL() api.LockTow { return tow(4, 1, 5, 2, 6, 6, 1, 5, 1) }
func towN() api.LockTow { return tow(0, 1, 5, 2, 6, 6, 1, 5, 1) }
func towO() api.LockTow { return tow(1, 1, 5, 2, 6, 6, 1, 5, 1) }

// crowd is a tow of which a raft that takes long in the second lock lets so many others wait.
func crowd(many, room int) api.LockTow {
	t := again(many, room, 1, 1)
	t.Rafts = append([]api.LockRaft{{First: 0, Second: 20}}, t.Rafts...)
	t.Rafts = append(t.Rafts, api.LockRaft{First: 20, Second: 0})
	return t
}

// answers checks what functions return for a tow.
type answers struct {
	t   *testing.T
	tow api.LockTow
}

// is checks an error, and that what comes with one is zero.
func (a answers) is(name string, e, want api.Errno, zero bool) {
	a.t.Helper()
	if e != want || want != api.OK && !zero {
		a.t.Errorf("%s of %v: error %d, want %d; zero values: %t", name, a.tow, e, want, zero)
	}
}

// ofTow checks that the functions that take only a tow return an error.
func (a answers) ofTow(want api.Errno) {
	a.t.Helper()
	n, e := lock.Best(a.tow)
	a.is("Best", e, want, n == 0)
	l, e := lock.Order(a.tow)
	a.is("Order", e, want, len(l) == 0)
	l, e = lock.Firsts(a.tow)
	a.is("Firsts", e, want, len(l) == 0)
	l, e = lock.Rule(a.tow)
	a.is("Rule", e, want, len(l) == 0)
	which, n, e := lock.Proof(a.tow)
	a.is("Proof", e, want, which == 0 && n == 0)
	room, e := lock.Enough(a.tow)
	a.is("Enough", e, want, room == 0)
}

// ofOrder checks that the functions that take an order return an error.
func (a answers) ofOrder(order []int, want api.Errno) {
	a.t.Helper()
	l, e := lock.Through(a.tow, order)
	a.is("Through", e, want, len(l) == 0)
	n, e := lock.Time(a.tow, order)
	a.is("Time", e, want, n == 0)
}

// ofBound checks that Bound returns an error.
func (a answers) ofBound(which int, time int64, want api.Errno) {
	a.t.Helper()
	n, e := lock.Bound(a.tow, which, time)
	a.is("Bound", e, want, n == 0)
}

// checks is tows, and what CheckTow returns for them.
func checks() []struct {
	t api.LockTow
	e api.Errno
} {
	return []struct {
		t api.LockTow
		e api.Errno
	}{
		{towL(), api.OK},
		{towN(), api.OK},
		{towO(), api.OK},
		// how many rafts
		{tow(0, 4, 9), api.OK},
		{again(7, 0, 4, 9), api.OK},
		{tow(0), api.ErrMany},
		{api.LockTow{}, api.ErrMany},
		{api.LockTow{Rafts: []api.LockRaft{}, Room: 3}, api.ErrMany},
		{again(8, 0, 4, 9), api.ErrMany},
		{again(1000, 0, 4, 9), api.ErrMany},
		// First
		{tow(0, 0, 9), api.OK},
		{tow(0, 1000, 9), api.OK},
		{tow(0, -1, 9), api.ErrRange},
		{tow(0, 1001, 9), api.ErrRange},
		{tow(0, math.MinInt64, 9), api.ErrRange},
		{tow(0, math.MaxInt64, 9), api.ErrRange},
		{tow(0, 1<<32, 9), api.ErrRange},
		{tow(0, 1, 5, 2, 6, -1, 1), api.ErrRange},
		{tow(0, 1, 5, 1001, 6, 3, 1), api.ErrRange},
		// Second
		{tow(0, 4, 0), api.OK},
		{tow(0, 4, 1000), api.OK},
		{tow(0, 4, -1), api.ErrRange},
		{tow(0, 4, 1001), api.ErrRange},
		{tow(0, 4, math.MinInt64), api.ErrRange},
		{tow(0, 4, math.MaxInt64), api.ErrRange},
		{tow(0, 4, 1<<32), api.ErrRange},
		{tow(0, 1, 5, 2, 6, 3, -1), api.ErrRange},
		{tow(0, 1, 5, 2, 1001, 3, 1), api.ErrRange},
		// both at their ends
		{again(7, 7, 1000, 1000), api.OK},
		{again(7, 0, 0, 0), api.OK},
		{tow(0, math.MinInt64, math.MinInt64), api.ErrRange},
		// Room
		{tow(7, 4, 9), api.OK},
		{tow(-1, 4, 9), api.ErrRange},
		{tow(8, 4, 9), api.ErrRange},
		{tow(math.MinInt, 4, 9), api.ErrRange},
		{tow(math.MaxInt, 4, 9), api.ErrRange},
		{tow(1<<32, 4, 9), api.ErrRange},
		// the order of errors
		{tow(-1), api.ErrMany},
		{tow(8), api.ErrMany},
		{again(8, 0, 1001, 0), api.ErrMany},
		{again(8, 0, 0, -1), api.ErrMany},
		{again(8, 9, 5, 5), api.ErrMany},
		{tow(9, -1, 5), api.ErrRange},
	}
}

func TestCheckTow(t *testing.T) { // P9.1
	for i, x := range checks() {
		if e := lock.CheckTow(x.t); e != x.e {
			t.Errorf("%d: CheckTow(%v) = %d, want %d", i, x.t, e, x.e)
		}
	}
}

func TestErrorOfCheckTowFirst(t *testing.T) { // P9.1, R1, R2
	for _, x := range checks() {
		a := answers{t, x.t}
		a.ofTow(x.e)
		// With a valid tow come the other errors.
		wrongOrder, wrongLock, wrongTime := api.ErrRule, api.ErrArg, api.ErrRange
		if x.e != api.OK {
			wrongOrder, wrongLock, wrongTime = x.e, x.e, x.e
			a.ofOrder(list(0, 1, 2, 3), x.e)
			a.ofOrder(list(0), x.e)
			a.ofBound(1, 0, x.e)
		}
		a.ofOrder(nil, wrongOrder)
		a.ofOrder(list(9), wrongOrder)
		a.ofBound(0, 0, wrongLock)
		a.ofBound(3, -1, wrongLock)
		a.ofBound(1, -1, wrongTime)
		a.ofBound(2, 1001, wrongTime)
	}
}

func TestThroughAndTime(t *testing.T) { // P9.2
	for i, x := range []struct {
		t       api.LockTow
		order   []int
		through []int64
		time    int64
	}{
		// the examples of the chapter
		{towL(), list(0, 1, 2, 3), times(6, 12, 13, 15), 15},
		{towN(), list(0, 1, 2, 3), times(6, 12, 13, 18), 18},
		{towO(), list(0, 1, 2, 3), times(6, 12, 13, 15), 15},
		{towN(), list(0, 3, 1, 2), times(6, 14, 15, 7), 15},
		// one raft
		{tow(0, 4, 9), list(0), times(13), 13},
		{tow(7, 9, 4), list(0), times(13), 13},
		{tow(0, 0, 0), list(0), times(0), 0},
		{tow(3, 0, 7), list(0), times(7), 7},
		{tow(3, 7, 0), list(0), times(7), 7},
		{tow(3, 1000, 1000), list(0), times(2000), 2000},
		// a raft waits for the one before it, or the second lock waits for a raft
		{tow(7, 1, 9, 2, 3), list(0, 1), times(10, 13), 13},
		{tow(7, 9, 1, 3, 2), list(0, 1), times(10, 14), 14},
		{tow(7, 9, 1, 3, 2), list(1, 0), times(13, 5), 13},
		{tow(0, 9, 1, 3, 2), list(1, 0), times(13, 5), 13},
		// the first lock waits until there is room
		{tow(0, 1, 9, 1, 1, 1, 1), list(0, 1, 2), times(10, 11, 12), 12},
		{tow(0, 1, 9, 1, 1, 9, 1), list(0, 1, 2), times(10, 11, 20), 20},
		{tow(1, 1, 9, 1, 1, 9, 1), list(0, 1, 2), times(10, 11, 12), 12},
		{tow(0, 1, 9, 1, 1, 9, 1), list(2, 1, 0), times(20, 11, 10), 20},
		{tow(0, 1, 9, 1, 1, 1, 1, 9, 1), list(0, 1, 2, 3), times(10, 11, 12, 21), 21},
		{tow(1, 1, 9, 1, 1, 1, 1, 9, 1), list(0, 1, 2, 3), times(10, 11, 12, 20), 20},
		{tow(2, 1, 9, 1, 1, 1, 1, 9, 1), list(0, 1, 2, 3), times(10, 11, 12, 13), 13},
		{tow(7, 1, 9, 1, 1, 1, 1, 9, 1), list(0, 1, 2, 3), times(10, 11, 12, 13), 13},
		{tow(2, 1, 9, 1, 1, 1, 1, 9, 1), list(3, 2, 1, 0), times(21, 12, 11, 10), 21},
		// rafts that take no time leave room, or need some, nevertheless
		{tow(0, 0, 5, 0, 0, 4, 0), list(0, 1, 2), times(5, 5, 9), 9},
		{tow(1, 0, 5, 0, 0, 4, 0), list(0, 1, 2), times(5, 5, 5), 5},
		{tow(1, 0, 5, 0, 0, 0, 0, 4, 0), list(0, 1, 2, 3), times(5, 5, 5, 9), 9},
		{tow(2, 0, 5, 0, 0, 0, 0, 4, 0), list(0, 1, 2, 3), times(5, 5, 5, 5), 5},
		{again(7, 0, 0, 0), list(6, 5, 4, 3, 2, 1, 0), times(0, 0, 0, 0, 0, 0, 0), 0},
		// seven rafts
		{crowd(5, 0), list(0, 1, 2, 3, 4, 5, 6), times(20, 21, 22, 23, 24, 25, 44), 44},
		{crowd(5, 4), list(0, 1, 2, 3, 4, 5, 6), times(20, 21, 22, 23, 24, 25, 40), 40},
		{crowd(5, 5), list(0, 1, 2, 3, 4, 5, 6), times(20, 21, 22, 23, 24, 25, 25), 25},
		{crowd(5, 4), list(0, 1, 2, 3, 4, 6, 5), times(20, 21, 22, 23, 24, 26, 24), 26},
		{again(7, 0, 1000, 1000), list(3, 1, 4, 0, 5, 2, 6), times(5000, 3000, 7000, 2000, 4000, 6000, 8000), 8000},
		{again(7, 7, 0, 1000), list(3, 1, 4, 0, 5, 2, 6), times(4000, 2000, 6000, 1000, 3000, 5000, 7000), 7000},
		{again(7, 3, 1000, 0), list(0, 1, 2, 3, 4, 5, 6), times(1000, 2000, 3000, 4000, 5000, 6000, 7000), 7000},
	} {
		got, e := lock.Through(x.t, x.order)
		if !slices.Equal(got, x.through) || e != api.OK {
			t.Errorf("%d: Through(%v, %v) = %v, %d, want %v", i, x.t, x.order, got, e, x.through)
		}
		if n, e := lock.Time(x.t, x.order); n != x.time || e != api.OK {
			t.Errorf("%d: Time(%v, %v) = %d, %d, want %d", i, x.t, x.order, n, e, x.time)
		}
	}
}

func TestWrongOrders(t *testing.T) { // P9.2, R2, R5
	for _, x := range []struct {
		t     api.LockTow
		order []int
	}{
		// the example of the chapter
		{towL(), list(0, 0, 1, 2)},
		// not each raft
		{towL(), nil},
		{towL(), list(0)},
		{towL(), list(0, 1, 2)},
		{towL(), list(1, 2, 3)},
		{tow(0, 4, 9), nil},
		// one twice
		{towL(), list(0, 1, 2, 2)},
		{towL(), list(3, 1, 2, 3)},
		{towL(), list(0, 0, 0, 0)},
		{towL(), list(0, 1, 2, 3, 3)},
		{towL(), list(0, 1, 2, 3, 0, 1, 2, 3)},
		{tow(0, 4, 9), list(0, 0)},
		// one that is none
		{towL(), list(0, 1, 2, 4)},
		{towL(), list(0, 1, 2, -1)},
		{towL(), list(4, 3, 2, 1)},
		{towL(), list(0, 1, 2, 3, 4)},
		{towL(), list(-1, 0, 1, 2, 3)},
		{towL(), list(0, math.MinInt, 2, 3)},
		{towL(), list(0, 1, math.MaxInt, 3)},
		{towL(), list(0, 1, 2, 1<<32+3)},
		{towL(), list(0, 1, 2, 7)},
		{tow(0, 4, 9), list(1)},
		{tow(0, 4, 9), list(-1)},
		{again(7, 0, 4, 9), list(0, 1, 2, 3, 4, 5, 7)},
		{again(7, 0, 4, 9), list(0, 1, 2, 3, 4, 5, 6, 7)},
		{again(7, 0, 4, 9), make([]int, 1000)},
	} {
		answers{t, x.t}.ofOrder(x.order, api.ErrRule)
	}
}

// known is a tow, and what the functions return for it.
type known struct {
	t      api.LockTow
	best   int64
	order  []int
	firsts []int
	rule   []int
	enough int
	lock   int
	time   int64
	bound  int64
}

func tows() []known {
	return []known{
		// the tows L, N and O of the chapter
		{towL(), 15, list(0, 1, 2, 3), list(0, 1), list(0, 1, 2, 3), 0, 2, 1, 15},
		{towN(), 15, list(0, 3, 1, 2), list(0, 1), list(0, 1, 2, 3), 0, 2, 1, 15},
		{towO(), 15, list(0, 1, 2, 3), list(0, 1), list(0, 1, 2, 3), 0, 2, 1, 15},
		// one raft
		{tow(0, 4, 9), 13, list(0), list(0), list(0), 0, 1, 4, 13},
		{tow(7, 9, 4), 13, list(0), list(0), list(0), 0, 1, 9, 13},
		{tow(0, 0, 0), 0, list(0), list(0), list(0), 0, 1, 0, 0},
		{tow(7, 1000, 1000), 2000, list(0), list(0), list(0), 0, 1, 1000, 2000},
		{tow(0, 0, 1000), 1000, list(0), list(0), list(0), 0, 1, 0, 1000},
		// two rafts: no room is enough
		{tow(0, 1, 2, 2, 1), 4, list(0, 1), list(0), list(0, 1), 0, 1, 1, 4},
		{tow(0, 2, 1, 1, 2), 4, list(1, 0), list(1), list(1, 0), 0, 1, 1, 4},
		{tow(0, 2, 9, 1, 4), 14, list(1, 0), list(1), list(1, 0), 0, 1, 1, 14},
		{tow(7, 9, 2, 4, 1), 14, list(0, 1), list(0), list(0, 1), 0, 2, 1, 14},
		{tow(0, 3, 3, 3, 3), 9, list(0, 1), list(0, 1), list(0, 1), 0, 1, 3, 9},
		// rafts that take no time
		{again(7, 0, 0, 0), 0, list(0, 1, 2, 3, 4, 5, 6), list(0, 1, 2, 3, 4, 5, 6), list(0, 1, 2, 3, 4, 5, 6), 0, 1, 0, 0},
		{again(2, 3, 0, 0), 0, list(0, 1), list(0, 1), list(0, 1), 0, 1, 0, 0},
		{tow(0, 0, 5, 0, 3), 8, list(0, 1), list(0, 1), list(0, 1), 0, 1, 0, 8},
		{tow(0, 5, 0, 3, 0), 8, list(0, 1), list(0, 1), list(0, 1), 0, 2, 0, 8},
		{tow(0, 0, 7, 7, 0, 0, 0), 7, list(0, 1, 2), list(0, 2), list(0, 2, 1), 0, 1, 0, 7},
		{tow(1, 0, 0, 7, 7, 0, 0), 14, list(0, 1, 2), list(0, 1, 2), list(0, 2, 1), 0, 1, 7, 14},
		// equal rafts
		{again(3, 0, 2, 2), 8, list(0, 1, 2), list(0, 1, 2), list(0, 1, 2), 0, 1, 2, 8},
		{again(4, 2, 5, 1), 21, list(0, 1, 2, 3), list(0, 1, 2, 3), list(0, 1, 2, 3), 0, 2, 1, 21},
		{again(4, 2, 1, 5), 21, list(0, 1, 2, 3), list(0, 1, 2, 3), list(0, 1, 2, 3), 0, 1, 1, 21},
		{again(7, 0, 1000, 1000), 8000, list(0, 1, 2, 3, 4, 5, 6), list(0, 1, 2, 3, 4, 5, 6), list(0, 1, 2, 3, 4, 5, 6), 0, 1, 1000, 8000},
		// without room another order, or another time
		{tow(0, 1, 9, 1, 1, 9, 1), 12, list(0, 2, 1), list(0, 1), list(0, 1, 2), 0, 1, 1, 12},
		{tow(1, 1, 9, 1, 1, 9, 1), 12, list(0, 1, 2), list(0, 1), list(0, 1, 2), 0, 1, 1, 12},
		{tow(0, 0, 9, 1, 1, 9, 1), 11, list(0, 2, 1), list(0), list(0, 1, 2), 0, 1, 0, 11},
		{tow(0, 1, 3, 1, 3, 5, 1), 10, list(0, 1, 2), list(0, 1), list(0, 1, 2), 1, 1, 1, 8},
		{tow(1, 1, 3, 1, 3, 5, 1), 8, list(0, 1, 2), list(0, 1), list(0, 1, 2), 1, 1, 1, 8},
		{tow(0, 5, 8, 5, 0, 3, 2), 16, list(2, 0, 1), list(2), list(0, 2, 1), 1, 1, 5, 15},
		{tow(1, 5, 8, 5, 0, 3, 2), 15, list(0, 1, 2), list(0), list(0, 2, 1), 1, 1, 5, 15},
		// as much room as can be of use
		{crowd(1, 0), 22, list(0, 2, 1), list(0, 1), list(0, 1, 2), 1, 1, 0, 21},
		{crowd(2, 0), 23, list(0, 3, 1, 2), list(0, 1, 2), list(0, 1, 2, 3), 2, 1, 0, 22},
		{crowd(2, 1), 23, list(0, 1, 3, 2), list(0, 1, 2), list(0, 1, 2, 3), 2, 1, 0, 22},
		{crowd(2, 2), 22, list(0, 1, 2, 3), list(0), list(0, 1, 2, 3), 2, 1, 0, 22},
		{crowd(3, 2), 24, list(0, 1, 2, 4, 3), list(0, 1, 2, 3), list(0, 1, 2, 3, 4), 3, 1, 0, 23},
		{crowd(4, 3), 25, list(0, 1, 2, 3, 5, 4), list(0, 1, 2, 3, 4), list(0, 1, 2, 3, 4, 5), 4, 1, 0, 24},
		{crowd(5, 0), 26, list(0, 6, 1, 2, 3, 4, 5), list(0, 1, 2, 3, 4, 5), list(0, 1, 2, 3, 4, 5, 6), 5, 1, 0, 25},
		{crowd(5, 1), 26, list(0, 1, 6, 2, 3, 4, 5), list(0, 1, 2, 3, 4, 5), list(0, 1, 2, 3, 4, 5, 6), 5, 1, 0, 25},
		{crowd(5, 4), 26, list(0, 1, 2, 3, 4, 6, 5), list(0, 1, 2, 3, 4, 5), list(0, 1, 2, 3, 4, 5, 6), 5, 1, 0, 25},
		{crowd(5, 5), 25, list(0, 1, 2, 3, 4, 5, 6), list(0), list(0, 1, 2, 3, 4, 5, 6), 5, 1, 0, 25},
		{crowd(5, 7), 25, list(0, 1, 2, 3, 4, 5, 6), list(0), list(0, 1, 2, 3, 4, 5, 6), 5, 1, 0, 25},
		// more rafts
		{tow(7, 3, 6, 5, 2, 1, 2, 6, 6, 7, 5), 24, list(0, 2, 3, 4, 1), list(0, 2), list(2, 0, 3, 4, 1), 0, 1, 7, 24},
		{tow(1, 3, 6, 5, 2, 1, 2, 6, 6, 7, 5), 24, list(0, 2, 3, 4, 1), list(0, 2), list(2, 0, 3, 4, 1), 0, 1, 7, 24},
		{tow(0, 3, 6, 5, 2, 1, 2, 6, 6, 7, 5), 24, list(2, 0, 3, 4, 1), list(2), list(2, 0, 3, 4, 1), 0, 1, 7, 24},
		{tow(0, 2, 3, 1, 8, 2, 1, 3, 3, 8, 0), 17, list(0, 3, 2, 1, 4), list(0), list(1, 0, 3, 2, 4), 3, 1, 1, 16},
		{tow(2, 2, 3, 1, 8, 2, 1, 3, 3, 8, 0), 17, list(0, 1, 2, 3, 4), list(0, 1, 2), list(1, 0, 3, 2, 4), 3, 1, 1, 16},
		{tow(3, 2, 3, 1, 8, 2, 1, 3, 3, 8, 0), 16, list(1, 0, 2, 3, 4), list(1), list(1, 0, 3, 2, 4), 3, 1, 1, 16},
		{tow(0, 30, 80, 60, 20, 50, 90, 10, 40, 70, 60, 20, 10), 310, list(3, 0, 2, 4, 1, 5), list(3), list(3, 0, 2, 4, 1, 5), 0, 1, 10, 310},
		{tow(1, 30, 80, 60, 20, 50, 90, 10, 40, 70, 60, 20, 10), 310, list(3, 0, 1, 2, 4, 5), list(3), list(3, 0, 2, 4, 1, 5), 0, 1, 10, 310},
		{tow(0, 7, 3, 3, 7, 9, 2, 2, 9, 6, 6, 1, 5, 8, 4), 40, list(5, 4, 0, 1, 6, 3, 2), list(5), list(5, 3, 1, 4, 6, 0, 2), 1, 2, 2, 38},
		{tow(1, 7, 3, 3, 7, 9, 2, 2, 9, 6, 6, 1, 5, 8, 4), 38, list(3, 0, 1, 4, 6, 5, 2), list(3, 5), list(5, 3, 1, 4, 6, 0, 2), 1, 2, 2, 38},
		{tow(7, 7, 3, 3, 7, 9, 2, 2, 9, 6, 6, 1, 5, 8, 4), 38, list(3, 0, 1, 4, 5, 6, 2), list(3, 5), list(5, 3, 1, 4, 6, 0, 2), 1, 2, 2, 38},
		{tow(0, 999, 1000, 1000, 999, 1000, 1000, 0, 1000, 1000, 0, 998, 997, 1, 2), 5001, list(3, 1, 5, 0, 2, 4, 6), list(3, 6), list(3, 6, 0, 2, 1, 5, 4), 1, 1, 0, 4998},
		{tow(7, 999, 1000, 1000, 999, 1000, 1000, 0, 1000, 1000, 0, 998, 997, 1, 2), 4998, list(3, 0, 1, 2, 5, 6, 4), list(3), list(3, 6, 0, 2, 1, 5, 4), 1, 1, 0, 4998},
	}
}

func TestBestAndOrder(t *testing.T) { // P9.3
	for i, x := range tows() {
		if n, e := lock.Best(x.t); n != x.best || e != api.OK {
			t.Errorf("%d: Best(%v) = %d, %d, want %d", i, x.t, n, e, x.best)
		}
		if l, e := lock.Order(x.t); !slices.Equal(l, x.order) || e != api.OK {
			t.Errorf("%d: Order(%v) = %v, %d, want %v", i, x.t, l, e, x.order)
		}
	}
}

func TestFirsts(t *testing.T) { // P9.4
	for i, x := range tows() {
		if l, e := lock.Firsts(x.t); !slices.Equal(l, x.firsts) || e != api.OK {
			t.Errorf("%d: Firsts(%v) = %v, %d, want %v", i, x.t, l, e, x.firsts)
		}
	}
}

func TestRule(t *testing.T) { // P9.5
	for i, x := range tows() {
		if l, e := lock.Rule(x.t); !slices.Equal(l, x.rule) || e != api.OK {
			t.Errorf("%d: Rule(%v) = %v, %d, want %v", i, x.t, l, e, x.rule)
		}
	}
	for i, x := range []struct {
		t    api.LockTow
		rule []int
	}{
		// First equal to Second is not greater
		{tow(0, 3, 3, 1, 1, 2, 2), list(1, 2, 0)},
		{tow(0, 5, 4, 4, 4, 4, 5), list(1, 2, 0)},
		{tow(0, 0, 0, 1, 0, 0, 1), list(0, 2, 1)},
		// the lesser First, whatever Second is
		{tow(0, 3, 5, 2, 4, 1, 9, 0, 1), list(3, 2, 1, 0)},
		// the greater Second, whatever First is
		{tow(0, 5, 1, 9, 3, 4, 2, 8, 0), list(1, 2, 0, 3)},
		// by their index
		{tow(0, 2, 9, 2, 3, 2, 5, 2, 2), list(0, 1, 2, 3)},
		{tow(0, 9, 2, 3, 2, 5, 2, 4, 2), list(0, 1, 2, 3)},
		{tow(0, 5, 1, 1, 5, 5, 1, 1, 5, 5, 1, 1, 5, 5, 1), list(1, 3, 5, 0, 2, 4, 6)},
		// Room does not count
		{tow(7, 9, 1, 1, 9, 9, 2), list(1, 2, 0)},
		{tow(0, 9, 1, 1, 9, 9, 2), list(1, 2, 0)},
		// at the limits
		{tow(7, 1000, 999, 1000, 1000, 0, 0, 1000, 0, 0, 1000, 999, 1000, 999, 998), list(2, 4, 5, 1, 0, 6, 3)},
	} {
		if l, e := lock.Rule(x.t); !slices.Equal(l, x.rule) || e != api.OK {
			t.Errorf("%d: Rule(%v) = %v, %d, want %v", i, x.t, l, e, x.rule)
		}
	}
}

func TestBound(t *testing.T) { // P9.6
	for i, x := range []struct {
		t    api.LockTow
		lock int
		time int64
		n    int64
		e    api.Errno
	}{
		// the examples of the chapter
		{towL(), 2, 1, 15, api.OK},
		{towL(), 1, 2, 11, api.OK},
		{towL(), 1, 7, 0, api.ErrNone},
		{towL(), 3, 1, 0, api.ErrArg},
		// all times of both locks
		{towL(), 1, 0, 13, api.OK},
		{towL(), 1, 1, 14, api.OK},
		{towL(), 1, 3, 8, api.OK},
		{towL(), 1, 5, 10, api.OK},
		{towL(), 1, 6, 11, api.OK},
		{towL(), 2, 0, 14, api.OK},
		{towL(), 2, 2, 7, api.OK},
		{towL(), 2, 5, 10, api.OK},
		{towL(), 2, 6, 11, api.OK},
		{towL(), 2, 7, 0, api.ErrNone},
		// Room does not count
		{towN(), 2, 1, 15, api.OK},
		{towN(), 1, 2, 11, api.OK},
		{towN(), 1, 7, 0, api.ErrNone},
		// one raft
		{tow(0, 4, 9), 1, 0, 9, api.OK},
		{tow(0, 4, 9), 1, 4, 13, api.OK},
		{tow(0, 4, 9), 1, 5, 0, api.ErrNone},
		{tow(0, 4, 9), 2, 5, 9, api.OK},
		{tow(0, 4, 9), 2, 9, 13, api.OK},
		{tow(0, 4, 9), 2, 10, 0, api.ErrNone},
		// rafts that take no time
		{tow(0, 0, 0), 1, 0, 0, api.OK},
		{tow(0, 0, 0), 2, 0, 0, api.OK},
		{tow(0, 0, 0), 1, 1, 0, api.ErrNone},
		{again(7, 0, 0, 0), 2, 1, 0, api.ErrNone},
		// at the limits
		{again(7, 0, 1000, 1000), 1, 1000, 8000, api.OK},
		{again(7, 0, 1000, 1000), 2, 1000, 8000, api.OK},
		{again(7, 0, 999, 1000), 1, 1000, 0, api.ErrNone},
		{again(7, 0, 999, 1000), 2, 1000, 7993, api.OK},
		{towL(), 1, 1000, 0, api.ErrNone},
		// a time that is none
		{towL(), 1, -1, 0, api.ErrRange},
		{towL(), 2, 1001, 0, api.ErrRange},
		{again(7, 0, 1000, 1000), 1, 1001, 0, api.ErrRange},
		{towL(), 1, math.MinInt64, 0, api.ErrRange},
		{towL(), 2, math.MaxInt64, 0, api.ErrRange},
		{towL(), 1, 1 << 32, 0, api.ErrRange},
		// a lock that is none
		{towL(), 0, 1, 0, api.ErrArg},
		{towL(), -1, 1, 0, api.ErrArg},
		{towL(), math.MinInt, 1, 0, api.ErrArg},
		{towL(), math.MaxInt, 1, 0, api.ErrArg},
		{towL(), 1<<32 + 1, 1, 0, api.ErrArg},
		// the order of errors
		{towL(), 0, -1, 0, api.ErrArg},
		{towL(), 3, 1001, 0, api.ErrArg},
		{towL(), 3, 7, 0, api.ErrArg},
	} {
		if n, e := lock.Bound(x.t, x.lock, x.time); n != x.n || e != x.e {
			t.Errorf("%d: Bound(%v, %d, %d) = %d, %d, want %d, %d", i, x.t, x.lock, x.time, n, e, x.n, x.e)
		}
	}
}

func TestProof(t *testing.T) { // P9.6
	for i, x := range tows() {
		which, time, e := lock.Proof(x.t)
		if which != x.lock || time != x.time || e != api.OK {
			t.Errorf("%d: Proof(%v) = %d, %d, %d, want %d, %d", i, x.t, which, time, e, x.lock, x.time)
		}
		if n, e := lock.Bound(x.t, x.lock, x.time); n != x.bound || e != api.OK {
			t.Errorf("%d: Bound(%v, %d, %d) = %d, %d, want %d", i, x.t, x.lock, x.time, n, e, x.bound)
		}
	}
}

func TestEnough(t *testing.T) { // P9.7
	for i, x := range tows() {
		// Room does not count.
		for room := range 8 {
			other := api.LockTow{Rafts: x.t.Rafts, Room: room}
			if n, e := lock.Enough(other); n != x.enough || e != api.OK {
				t.Errorf("%d: Enough(%v) = %d, %d, want %d", i, other, n, e, x.enough)
			}
		}
	}
}
