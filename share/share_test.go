package share_test

import (
	"math"
	"slices"
	"testing"

	"peavey/api"
	"peavey/share"
)

func list(x ...int64) []int64     { return x }
func by(num, den int64) api.Ratio { return api.Ratio{Num: num, Den: den} }
func to(lo, hi int64) api.Range   { return api.Range{Lo: lo, Hi: hi} }
func just(n int64) api.Range      { return to(n, n) }
func pool(part, prize int64, had ...int64) api.SharePool {
	return api.SharePool{Had: had, Part: part, Prize: prize}
}

// poolP, poolQ and poolT are the pools P, Q and T of the chapter.
func poolP() api.SharePool { return pool(50, 10, 53, 24, 23) }
func poolQ() api.SharePool { return pool(1, 10, 53, 24, 23) }
func poolT() api.SharePool { return pool(50, 4, 10, 10, 10) }

// again is something so many times.
func again[T any](many int, x T) []T { return slices.Repeat([]T{x}, many) }

// turns is the owners 0 1 2 .. of so many, again and again, for so many logs.
func turns(owners, logs int) []int {
	var l []int
	for i := range logs {
		l = append(l, i%owners)
	}
	return l
}

// sum is all numbers together.
func sum(l []int64) int64 {
	var all int64
	for _, x := range l {
		all += x
	}
	return all
}

func TestCheckPool(t *testing.T) { // P7.1
	for i, x := range []struct {
		p api.SharePool
		e api.Errno
	}{
		{poolP(), api.OK},
		{poolQ(), api.OK},
		{poolT(), api.OK},
		// one owner, 12 owners
		{pool(50, 5, 7), api.OK},
		{pool(50, 5, again(12, int64(7))...), api.OK},
		{pool(50, 5), api.ErrMany},
		{pool(50, 5, again(13, int64(7))...), api.ErrMany},
		{pool(50, 5, again(1000, int64(7))...), api.ErrMany},
		// Had
		{pool(50, 5, 1), api.OK},
		{pool(50, 5, 1000000), api.OK},
		{pool(50, 5, 1, 1000000, 1), api.OK},
		{pool(50, 5, 0), api.ErrRange},
		{pool(50, 5, 1000001), api.ErrRange},
		{pool(50, 5, 4, 4, 0), api.ErrRange},
		{pool(50, 5, 0, 4, 4), api.ErrRange},
		{pool(50, 5, 4, 1000001, 4), api.ErrRange},
		{pool(50, 5, 4, -1), api.ErrRange},
		{pool(50, 5, math.MinInt64), api.ErrRange},
		{pool(50, 5, math.MaxInt64), api.ErrRange},
		{pool(50, 5, 1<<32+1), api.ErrRange},
		{pool(50, 5, append(again(11, int64(7)), 0)...), api.ErrRange},
		// Part
		{pool(1, 5, 7), api.OK},
		{pool(100, 5, 7), api.OK},
		{pool(0, 5, 7), api.ErrRange},
		{pool(101, 5, 7), api.ErrRange},
		{pool(-1, 5, 7), api.ErrRange},
		{pool(math.MinInt64, 5, 7), api.ErrRange},
		{pool(math.MaxInt64, 5, 7), api.ErrRange},
		{pool(1<<32+1, 5, 7), api.ErrRange},
		// Prize
		{pool(50, 0, 7), api.OK},
		{pool(50, 1, 7), api.OK},
		{pool(50, 1000, 7), api.OK},
		{pool(50, -1, 7), api.ErrRange},
		{pool(50, 1001, 7), api.ErrRange},
		{pool(50, math.MinInt64, 7), api.ErrRange},
		{pool(50, math.MaxInt64, 7), api.ErrRange},
		{pool(50, 1<<32, 7), api.ErrRange},
		// the order of errors
		{pool(0, -1), api.ErrMany},
		{pool(101, 1001, make([]int64, 13)...), api.ErrMany},
		{api.SharePool{}, api.ErrMany},
		{pool(0, -1, 0), api.ErrRange},
	} {
		if e := share.CheckPool(x.p); e != x.e {
			t.Errorf("%d: CheckPool(%v) = %d, want %d", i, x.p, e, x.e)
		}
	}
}

// answers are what the functions return for a pool.
type answers struct {
	t *testing.T
	p api.SharePool
}

// is checks that a function returned an error, and beside it only zero values.
func (a answers) is(name string, e, want api.Errno, zero bool) {
	a.t.Helper()
	if e != want || !zero {
		a.t.Errorf("%s of %v: error %d, want %d; all zero: %v", name, a.p, e, want, zero)
	}
}

// ofShares checks that all functions with shares return an error for shares, CheckDivisor with a divisor.
func (a answers) ofShares(shares []int64, x api.Ratio, want api.Errno) {
	a.t.Helper()
	a.is("CheckShares", share.CheckShares(a.p, shares), want, true)
	a.is("CheckDivisor", share.CheckDivisor(a.p, shares, x), want, true)
	lo, hi, e := share.Divisors(a.p, shares)
	a.is("Divisors", e, want, lo == api.Ratio{} && hi == api.Ratio{})
}

// ofOwner checks that all functions with an owner return an error.
func (a answers) ofOwner(owner int, want api.Errno) {
	a.t.Helper()
	span, e := share.Span(a.p, owner)
	a.is("Span", e, want, span == api.Range{})
	quota, e := share.Quota(a.p, owner)
	a.is("Quota", e, want, quota == api.Range{})
}

// Every function returns the error of CheckPool first, with zero values, whatever else is wrong.
func TestErrorOfPoolFirst(t *testing.T) {
	for _, p := range []api.SharePool{{}, pool(50, 5), pool(50, 1, make([]int64, 13)...), pool(50, 5, 0), pool(50, 5, 7, 1000001), pool(0, 5, 7), pool(101, 5, 7), pool(50, -1, 7), pool(50, 1001, 7)} {
		want := share.CheckPool(p)
		if want == api.OK {
			t.Errorf("CheckPool(%v) = OK", p)
		}
		a := answers{t, p}
		for _, shares := range [][]int64{nil, list(5), list(-1), list(6), list(0, 0), list(1, 4), list(-1, 6), make([]int64, 13), make([]int64, 20)} {
			for _, x := range []api.Ratio{{}, by(1, 1), by(-1, 5), by(1<<31, 1)} {
				a.ofShares(shares, x, want)
			}
		}
		for _, owner := range []int{math.MinInt, -1, 0, 1, 12, 13, math.MaxInt} {
			a.ofOwner(owner, want)
		}
		order, e := share.Order(p)
		a.is("Order", e, want, len(order) == 0)
		shares, e := share.Shares(p)
		a.is("Shares", e, want, len(shares) == 0)
		count, e := share.Count(p)
		a.is("Count", e, want, count == 0)
	}
}

// An owner is one of the pool.
func TestErrorOfOwner(t *testing.T) { // P7.6, P7.7
	for _, p := range []api.SharePool{poolP(), poolT(), pool(50, 0, 7), pool(50, 5, 7), pool(1, 1000, again(12, int64(7))...), pool(50, 3, again(11, int64(7))...)} {
		for _, owner := range []int{-1, len(p.Had), len(p.Had) + 1, 13, 256, math.MinInt, math.MaxInt} {
			answers{t, p}.ofOwner(owner, api.ErrArg)
		}
		for owner := range p.Had {
			answers{t, p}.hasOwner(owner)
		}
	}
}

// hasOwner checks that all functions with an owner return something.
func (a answers) hasOwner(owner int) {
	a.t.Helper()
	if span, e := share.Span(a.p, owner); e != api.OK || span.Lo > span.Hi {
		a.t.Errorf("Span(%v, %d) = %v, %d", a.p, owner, span, e)
	}
	if quota, e := share.Quota(a.p, owner); e != api.OK || quota.Lo > quota.Hi {
		a.t.Errorf("Quota(%v, %d) = %v, %d", a.p, owner, quota, e)
	}
}

// Shares are one for each owner, from 0 to Prize, Prize together.
func TestErrorOfShares(t *testing.T) { // P7.2, P7.4, P7.5
	dozen := pool(50, 12, again(12, int64(7))...)
	for i, x := range []struct {
		p      api.SharePool
		shares []int64
		e      api.Errno
	}{
		// too few, too many
		{poolP(), nil, api.ErrEqual},
		{poolP(), list(10), api.ErrEqual},
		{poolP(), list(6, 4), api.ErrEqual},
		{poolP(), list(6, 2, 2, 0), api.ErrEqual},
		{poolT(), list(2, 2), api.ErrEqual},
		{pool(50, 0, 7), nil, api.ErrEqual},
		{pool(50, 0, 7), list(0, 0), api.ErrEqual},
		{dozen, again(11, int64(1)), api.ErrEqual},
		{dozen, append(again(12, int64(1)), 0), api.ErrEqual},
		{dozen, make([]int64, 1000), api.ErrEqual},
		// below 0, above Prize
		{poolP(), list(11, 0, 0), api.ErrRange},
		{poolP(), list(0, 0, 11), api.ErrRange},
		{poolP(), list(-1, 5, 6), api.ErrRange},
		{poolP(), list(6, 5, -1), api.ErrRange},
		{poolP(), list(11, -1, 0), api.ErrRange},
		{poolP(), list(math.MinInt64, math.MinInt64, 10), api.ErrRange},
		{poolP(), list(math.MaxInt64, math.MaxInt64, 12), api.ErrRange},
		{poolP(), list(1<<32, 5, 5), api.ErrRange},
		{pool(50, 0, 7), list(1), api.ErrRange},
		{pool(50, 0, 7), list(-1), api.ErrRange},
		{pool(50, 0, 7, 7), list(-1, 1), api.ErrRange},
		{pool(50, 1000, 7), list(1001), api.ErrRange},
		{dozen, append(again(11, int64(0)), 13), api.ErrRange},
		// not Prize together
		{poolP(), list(6, 2, 1), api.ErrSum},
		{poolP(), list(6, 2, 3), api.ErrSum},
		{poolP(), list(0, 0, 0), api.ErrSum},
		{poolP(), list(10, 10, 10), api.ErrSum},
		{poolP(), list(10, 0, 1), api.ErrSum},
		{poolT(), list(1, 1, 1), api.ErrSum},
		{pool(50, 1, 7), list(0), api.ErrSum},
		{pool(50, 1000, 7), list(999), api.ErrSum},
		{dozen, again(12, int64(12)), api.ErrSum},
		{pool(50, 1000, again(12, int64(7))...), again(12, int64(1000)), api.ErrSum},
		// the order of errors
		{poolP(), list(11, -1), api.ErrEqual},
		{poolP(), list(-1, 0, 0, 0), api.ErrEqual},
		{poolP(), list(10, 10, 10, 10), api.ErrEqual},
		{poolP(), list(11, 11, 11), api.ErrRange},
		{poolP(), list(10, 10, -1), api.ErrRange},
		{poolT(), list(4, 4, 0), api.ErrSum},
		{pool(50, 0, 7), list(0, 1), api.ErrEqual},
	} {
		for _, d := range []api.Ratio{by(48, 5), by(7, 1), {}, by(-1, -1), by(1<<30+1, 1)} {
			answers{t, x.p}.ofShares(x.shares, d, x.e)
		}
		if t.Failed() {
			t.Fatalf("%d: %v", i, x.shares)
		}
	}
}

// known is a pool with all that is told of it. The ends of the divisors are left out if there is no log.
type known struct {
	p      api.SharePool
	order  []int
	shares []int64
	count  int64
	spans  []api.Range
	lo, hi api.Ratio
}

func pools() []known {
	million := int64(1000000)
	return []known{
		// the examples of the chapter
		{poolP(), []int{0, 1, 2, 0, 0, 1, 2, 0, 0, 0}, list(6, 2, 2), 1, []api.Range{just(6), just(2), just(2)}, by(48, 5), by(106, 11)},
		{poolQ(), []int{0, 1, 2, 0, 0, 1, 2, 0, 0, 1}, list(5, 3, 2), 1, []api.Range{just(5), just(3), just(2)}, by(2300, 201), by(800, 67)},
		{poolT(), []int{0, 1, 2, 0}, list(2, 1, 1), 3, again(3, to(1, 2)), by(20, 3), by(20, 3)},
		// one owner
		{pool(1, 0, 1), nil, list(0), 1, again(1, just(0)), by(0, 0), by(0, 0)},
		{pool(100, 0, million), nil, list(0), 1, again(1, just(0)), by(0, 0), by(0, 0)},
		{pool(1, 1, 1), turns(1, 1), list(1), 1, again(1, just(1)), by(100, 101), by(100, 1)},
		{pool(100, 1, 1), turns(1, 1), list(1), 1, again(1, just(1)), by(1, 2), by(1, 1)},
		{pool(1, 1, million), turns(1, 1), list(1), 1, again(1, just(1)), by(100000000, 101), by(100000000, 1)},
		{pool(100, 1, million), turns(1, 1), list(1), 1, again(1, just(1)), by(500000, 1), by(million, 1)},
		{pool(1, 1000, 1), turns(1, 1000), list(1000), 1, again(1, just(1000)), by(100, 100001), by(100, 99901)},
		{pool(100, 1000, 1), turns(1, 1000), list(1000), 1, again(1, just(1000)), by(1, 1001), by(1, 1000)},
		{pool(1, 1000, million), turns(1, 1000), list(1000), 1, again(1, just(1000)), by(100000000, 100001), by(100000000, 99901)},
		{pool(100, 1000, million), turns(1, 1000), list(1000), 1, again(1, just(1000)), by(million, 1001), by(1000, 1)},
		{pool(50, 3, 7), turns(1, 3), list(3), 1, again(1, just(3)), by(2, 1), by(14, 5)},
		// 12 owners that had equally many: some get a log more, or none does
		{pool(50, 0, again(12, million)...), nil, again(12, int64(0)), 1, again(12, just(0)), by(0, 0), by(0, 0)},
		{pool(50, 1, again(12, int64(1))...), turns(12, 1), append(list(1), again(11, int64(0))...), 12, again(12, to(0, 1)), by(2, 1), by(2, 1)},
		{pool(1, 6, again(12, int64(1))...), turns(12, 6), append(again(6, int64(1)), again(6, int64(0))...), 924, again(12, to(0, 1)), by(100, 1), by(100, 1)},
		{pool(100, 11, again(12, int64(5))...), turns(12, 11), append(again(11, int64(1)), 0), 12, again(12, to(0, 1)), by(5, 1), by(5, 1)},
		{pool(100, 12, again(12, int64(5))...), turns(12, 12), again(12, int64(1)), 1, again(12, just(1)), by(5, 2), by(5, 1)},
		{pool(100, 13, again(12, int64(5))...), turns(12, 13), append(list(2), again(11, int64(1))...), 12, again(12, to(1, 2)), by(5, 2), by(5, 2)},
		{pool(50, 1000, again(12, int64(999999))...), turns(12, 1000), append(again(4, int64(84)), again(8, int64(83))...), 495, again(12, to(83, 84)), by(1999998, 167), by(1999998, 167)},
		// shares of 0
		{pool(50, 1000, million, 1), turns(1, 1000), list(1000, 0), 1, []api.Range{just(1000), just(0)}, by(2000000, 2001), by(2000000, 1999)},
		{pool(50, 1000, 1, million), again(1000, 1), list(0, 1000), 1, []api.Range{just(0), just(1000)}, by(2000000, 2001), by(2000000, 1999)},
		{pool(1, 1000, million, 10), turns(1, 1000), list(1000, 0), 1, []api.Range{just(1000), just(0)}, by(1000, 1), by(100000000, 99901)},
		{pool(50, 2, 9, 3, 1), []int{0, 0}, list(2, 0, 0), 2, []api.Range{to(1, 2), to(0, 1), just(0)}, by(6, 1), by(6, 1)},
		{pool(50, 1, 3, 5, 5), []int{1}, list(0, 1, 0), 2, []api.Range{just(0), to(0, 1), to(0, 1)}, by(10, 1), by(10, 1)},
		{pool(50, 1, 5, 6), []int{1}, list(0, 1), 1, []api.Range{just(0), just(1)}, by(10, 1), by(12, 1)},
		// quotients that are equal at a step
		{pool(100, 2, 10, 5), []int{0, 0}, list(2, 0), 2, []api.Range{to(1, 2), to(0, 1)}, by(5, 1), by(5, 1)},
		{pool(100, 2, 5, 10), []int{1, 0}, list(1, 1), 2, []api.Range{to(0, 1), to(1, 2)}, by(5, 1), by(5, 1)},
		{pool(100, 3, 10, 5), []int{0, 0, 1}, list(2, 1), 1, []api.Range{just(2), just(1)}, by(10, 3), by(5, 1)},
		{pool(100, 1000, million, 1000), turns(1, 1000), list(1000, 0), 2, []api.Range{to(999, 1000), to(0, 1)}, by(1000, 1), by(1000, 1)},
		{pool(100, 1000, 1000, million), append(again(999, 1), 0), list(1, 999), 2, []api.Range{to(0, 1), to(999, 1000)}, by(1000, 1), by(1000, 1)},
		{pool(50, 5, 5, 15, 25), []int{2, 1, 2, 0, 1}, list(1, 2, 2), 3, []api.Range{to(0, 1), to(1, 2), to(2, 3)}, by(10, 1), by(10, 1)},
		{pool(50, 4, 5, 15, 25), []int{2, 1, 2, 0}, list(1, 1, 2), 3, []api.Range{to(0, 1), to(1, 2), to(2, 3)}, by(10, 1), by(10, 1)},
		{pool(50, 6, 5, 15, 25), []int{2, 1, 2, 0, 1, 2}, list(1, 2, 3), 1, []api.Range{just(1), just(2), just(3)}, by(50, 7), by(10, 1)},
		// equal quotients before the last one leave nothing open
		{pool(50, 3, 6, 6, 5), []int{0, 1, 2}, list(1, 1, 1), 1, again(3, just(1)), by(4, 1), by(10, 1)},
		{pool(50, 3, 10, 10, 4, 4), []int{0, 1, 2}, list(1, 1, 1, 0), 2, []api.Range{just(1), just(1), to(0, 1), to(0, 1)}, by(8, 1), by(8, 1)},
		// the Part decides: 6 by 1.01 or 3 by 0.01, 6 by 1.5 or 2 by 0.5, 6 by 2 or 3 by 1
		{pool(1, 2, 6, 3), []int{0, 1}, list(1, 1), 1, []api.Range{just(1), just(1)}, by(600, 101), by(300, 1)},
		{pool(50, 2, 6, 2), []int{0, 0}, list(2, 0), 2, []api.Range{to(1, 2), to(0, 1)}, by(4, 1), by(4, 1)},
		{pool(51, 2, 6, 2), []int{0, 0}, list(2, 0), 1, []api.Range{just(2), just(0)}, by(200, 51), by(600, 151)},
		{pool(49, 2, 6, 2), []int{0, 1}, list(1, 1), 1, []api.Range{just(1), just(1)}, by(600, 149), by(200, 49)},
		{pool(100, 2, 6, 3), []int{0, 0}, list(2, 0), 2, []api.Range{to(1, 2), to(0, 1)}, by(3, 1), by(3, 1)},
	}
}

func TestShares(t *testing.T) { // P7.3
	for i, x := range pools() {
		if got, e := share.Order(x.p); !slices.Equal(got, x.order) || e != api.OK {
			t.Errorf("%d: Order(%v) = %v, %d, want %v", i, x.p, got, e, x.order)
		}
		if got, e := share.Shares(x.p); !slices.Equal(got, x.shares) || e != api.OK {
			t.Errorf("%d: Shares(%v) = %v, %d, want %v", i, x.p, got, e, x.shares)
		}
		if e := share.CheckShares(x.p, x.shares); e != api.OK {
			t.Errorf("%d: CheckShares(%v, %v) = %d", i, x.p, x.shares, e)
		}
	}
}

func TestCount(t *testing.T) { // P7.6
	for i, x := range pools() {
		if got, e := share.Count(x.p); got != x.count || e != api.OK {
			t.Errorf("%d: Count(%v) = %d, %d, want %d", i, x.p, got, e, x.count)
		}
		for owner, want := range x.spans {
			if got, e := share.Span(x.p, owner); got != want || e != api.OK {
				t.Errorf("%d: Span(%v, %d) = %v, %d, want %v", i, x.p, owner, got, e, want)
			}
		}
	}
}

func TestCheckShares(t *testing.T) { // P7.2
	for i, x := range []struct {
		p      api.SharePool
		shares []int64
		e      api.Errno
	}{
		// the examples of the chapter
		{poolP(), list(5, 3, 2), api.ErrShare},
		{poolT(), list(1, 1, 2), api.OK},
		{poolT(), list(2, 2, 0), api.ErrShare},
		{poolT(), list(1, 1, 1), api.ErrSum},
		// other ones
		{poolP(), list(6, 2, 2), api.OK},
		{poolP(), list(10, 0, 0), api.ErrShare},
		{poolP(), list(0, 0, 10), api.ErrShare},
		{poolP(), list(6, 3, 1), api.ErrShare},
		{poolP(), list(6, 1, 3), api.ErrShare},
		{poolP(), list(7, 2, 1), api.ErrShare},
		{poolQ(), list(5, 3, 2), api.OK},
		{poolQ(), list(6, 2, 2), api.ErrShare},
		{poolQ(), list(5, 2, 3), api.ErrShare},
		{poolT(), list(2, 1, 1), api.OK},
		{poolT(), list(1, 2, 1), api.OK},
		{poolT(), list(0, 2, 2), api.ErrShare},
		{poolT(), list(3, 1, 0), api.ErrShare},
		{poolT(), list(0, 0, 4), api.ErrShare},
		// no log
		{pool(50, 0, 5, 6), list(0, 0), api.OK},
		{pool(1, 0, 1000000, 1), list(0, 0), api.OK},
		{pool(100, 0, 7), list(0), api.OK},
		// one log
		{pool(50, 1, 5, 6), list(0, 1), api.OK},
		{pool(50, 1, 5, 6), list(1, 0), api.ErrShare},
		{pool(50, 1, 6, 6), list(1, 0), api.OK},
		{pool(50, 1, 6, 6), list(0, 1), api.OK},
		{pool(1, 1, 999999, 1000000), list(1, 0), api.ErrShare},
		{pool(100, 1, 999999, 1000000), list(0, 1), api.OK},
		// at a step
		{pool(100, 2, 10, 5), list(2, 0), api.OK},
		{pool(100, 2, 10, 5), list(1, 1), api.OK},
		{pool(100, 2, 10, 5), list(0, 2), api.ErrShare},
		{pool(100, 2, 10, 4), list(1, 1), api.ErrShare},
		{pool(100, 2, 10, 4), list(2, 0), api.OK},
		{pool(100, 2, 10, 6), list(2, 0), api.ErrShare},
		{pool(100, 2, 10, 6), list(1, 1), api.OK},
		// a thousand logs
		{pool(100, 1000, 1000000, 1000), list(1000, 0), api.OK},
		{pool(100, 1000, 1000000, 1000), list(999, 1), api.OK},
		{pool(100, 1000, 1000000, 1000), list(998, 2), api.ErrShare},
		{pool(100, 1000, 1000000, 999), list(1000, 0), api.OK},
		{pool(100, 1000, 1000000, 999), list(999, 1), api.ErrShare},
		{pool(100, 1000, 999999, 1000), list(1000, 0), api.ErrShare},
		{pool(100, 1000, 999999, 1000), list(999, 1), api.OK},
		{pool(50, 1000, 1000000, 1000000), list(500, 500), api.OK},
		{pool(50, 1000, 1000000, 1000000), list(501, 499), api.ErrShare},
		{pool(50, 1000, 1000000, 999999), list(500, 500), api.OK},
		// 12 owners
		{pool(50, 6, again(12, int64(9))...), list(0, 1, 0, 1, 0, 1, 0, 1, 0, 1, 0, 1), api.OK},
		{pool(50, 6, again(12, int64(9))...), list(0, 0, 0, 0, 0, 0, 1, 1, 1, 1, 1, 1), api.OK},
		{pool(50, 6, again(12, int64(9))...), list(2, 1, 1, 1, 1, 0, 0, 0, 0, 0, 0, 0), api.ErrShare},
		{pool(50, 6, again(12, int64(9))...), list(0, 0, 0, 0, 0, 0, 0, 0, 1, 1, 1, 3), api.ErrShare},
	} {
		if e := share.CheckShares(x.p, x.shares); e != x.e {
			t.Errorf("%d: CheckShares(%v, %v) = %d, want %d", i, x.p, x.shares, e, x.e)
		}
		if x.e != api.ErrShare {
			continue
		}
		lo, hi, e := share.Divisors(x.p, x.shares)
		answers{t, x.p}.is("Divisors", e, api.ErrShare, lo == api.Ratio{} && hi == api.Ratio{})
		if e := share.CheckDivisor(x.p, x.shares, by(-1, 0)); e != api.ErrArg {
			t.Errorf("%d: CheckDivisor(%v, %v) with a divisor that is none = %d", i, x.p, x.shares, e)
		}
	}
}

func TestDivisors(t *testing.T) { // P7.5
	for i, x := range pools() {
		lo, hi, e := share.Divisors(x.p, x.shares)
		if x.p.Prize == 0 {
			answers{t, x.p}.is("Divisors", e, api.ErrNone, lo == api.Ratio{} && hi == api.Ratio{})
			continue
		}
		if lo != x.lo || hi != x.hi || e != api.OK {
			t.Errorf("%d: Divisors(%v, %v) = %v, %v, %d, want %v, %v", i, x.p, x.shares, lo, hi, e, x.lo, x.hi)
		}
	}
}

// near returns a divisor that is above another one by so many of the least parts that its numbers allow, or the other one in other terms.
func near(x api.Ratio, parts int64) api.Ratio {
	times := (1<<30 - 1) / max(x.Num, x.Den)
	return by(x.Num*times+parts, x.Den*times)
}

// The ends of Divisors round as the shares are; what is beyond them does not, by however little.
func TestDivisorsAreEnds(t *testing.T) { // P7.4, P7.5
	for i, x := range pools() {
		if x.p.Prize == 0 {
			continue
		}
		for _, y := range []struct {
			d api.Ratio
			e api.Errno
		}{
			{x.lo, api.OK},
			{x.hi, api.OK},
			{near(x.lo, 0), api.OK},
			{near(x.hi, 0), api.OK},
			{by(x.lo.Num+x.hi.Num, x.lo.Den+x.hi.Den), api.OK},
			{near(x.lo, -1), api.ErrShare},
			{near(x.hi, 1), api.ErrShare},
			{by(1<<30, 1), api.ErrShare},
			{by(1, 1<<30), api.ErrShare},
		} {
			if e := share.CheckDivisor(x.p, x.shares, y.d); e != y.e {
				t.Errorf("%d: CheckDivisor(%v, %v, %v) = %d, want %d", i, x.p, x.shares, y.d, e, y.e)
			}
		}
	}
}

func TestCheckDivisor(t *testing.T) { // P7.4
	for i, x := range []struct {
		p      api.SharePool
		shares []int64
		d      api.Ratio
		e      api.Errno
	}{
		// the examples of the chapter
		{poolP(), list(6, 2, 2), by(48, 5), api.OK},
		{poolP(), list(6, 2, 2), by(29, 3), api.ErrShare},
		{poolP(), list(6, 2, 2), by(0, 1), api.ErrArg},
		// within and without; terms
		{poolP(), list(6, 2, 2), by(480, 50), api.OK},
		{poolP(), list(6, 2, 2), by(106, 11), api.OK},
		{poolP(), list(6, 2, 2), by(212, 22), api.OK},
		{poolP(), list(6, 2, 2), by(77, 8), api.OK},
		{poolP(), list(6, 2, 2), by(19, 2), api.ErrShare},
		{poolP(), list(6, 2, 2), by(1, 1), api.ErrShare},
		{poolP(), list(6, 2, 2), by(100, 1), api.ErrShare},
		// rounded up and down at a step
		{poolT(), list(2, 1, 1), by(20, 3), api.OK},
		{poolT(), list(1, 2, 1), by(20, 3), api.OK},
		{poolT(), list(1, 1, 2), by(40, 6), api.OK},
		{poolT(), list(2, 2, 0), by(20, 3), api.ErrShare},
		{poolT(), list(0, 2, 2), by(20, 3), api.ErrShare},
		{poolT(), list(2, 1, 1), by(201, 30), api.ErrShare},
		{poolT(), list(2, 1, 1), by(199, 30), api.ErrShare},
		// shares that are not fair
		{poolP(), list(5, 3, 2), by(48, 5), api.ErrShare},
		{poolP(), list(5, 3, 2), by(10, 1), api.ErrShare},
		{poolP(), list(0, 0, 10), by(1, 1), api.ErrShare},
		// the first, or the last, owner is wrong: its share is too small, or too great
		{pool(50, 2, 10, 10), list(0, 2), by(20, 3), api.ErrShare},
		{pool(50, 2, 10, 10), list(2, 0), by(20, 3), api.ErrShare},
		{pool(50, 2, 10, 30), list(0, 2), by(20, 1), api.OK},
		{pool(50, 2, 10, 30), list(0, 2), by(19, 1), api.ErrShare},
		{pool(50, 2, 10, 30), list(0, 2), by(21, 1), api.ErrShare},
		{pool(50, 2, 30, 10), list(2, 0), by(19, 1), api.ErrShare},
		{pool(50, 2, 30, 10), list(2, 0), by(21, 1), api.ErrShare},
		// no log: no divisor is too great, but for the limit
		{pool(50, 0, 5, 6), list(0, 0), by(12, 1), api.OK},
		{pool(50, 0, 5, 6), list(0, 0), by(11, 1), api.ErrShare},
		{pool(50, 0, 5, 6), list(0, 0), by(119999999, 10000000), api.ErrShare},
		{pool(50, 0, 5, 6), list(0, 0), by(1<<30, 1), api.OK},
		{pool(1, 0, 1000000), list(0), by(100000000, 1), api.OK},
		{pool(1, 0, 1000000), list(0), by(99999999, 1), api.ErrShare},
		{pool(1, 0, 1000000), list(0), by(1<<30, 11), api.ErrShare},
		{pool(1, 0, 1000000), list(0), by(1<<30, 10), api.OK},
		{pool(1, 0, 1000000), list(0), by(1, 1<<30), api.ErrShare},
		{pool(100, 0, 1), list(0), by(1, 1), api.OK},
		{pool(100, 0, 1), list(0), by(1<<30, 1<<30), api.OK},
		{pool(100, 0, 1), list(0), by(1<<30-1, 1<<30), api.ErrShare},
		// a Had times a step that is great
		{pool(100, 1000, 1000000), list(1000), by(1<<30, 1073742), api.OK},
		{pool(100, 1000, 1000000), list(1000), by(1<<30, 1073741), api.ErrShare},
		{pool(100, 1000, 1000000), list(1000), by(1<<30, 1074815), api.OK},
		{pool(100, 1000, 1000000), list(1000), by(1<<30, 1074816), api.ErrShare},
		{pool(100, 1000, 1000000, 1000000), list(500, 500), by(1000000, 501), api.OK},
		{pool(100, 1000, 1000000, 1000000), list(500, 500), by(1000000*1000, 501*1000+1), api.ErrShare},
		// a divisor that is none
		{poolP(), list(6, 2, 2), by(0, 0), api.ErrArg},
		{poolP(), list(6, 2, 2), by(48, 0), api.ErrArg},
		{poolP(), list(6, 2, 2), by(0, 5), api.ErrArg},
		{poolP(), list(6, 2, 2), by(-48, -5), api.ErrArg},
		{poolP(), list(6, 2, 2), by(-48, 5), api.ErrArg},
		{poolP(), list(6, 2, 2), by(48, -5), api.ErrArg},
		{poolP(), list(6, 2, 2), by(1<<30+1, 111<<20), api.ErrArg},
		{poolP(), list(6, 2, 2), by(48, 1<<30+1), api.ErrArg},
		{poolP(), list(6, 2, 2), by(48<<32, 5<<32), api.ErrArg},
		{poolP(), list(6, 2, 2), by(math.MinInt64, 5), api.ErrArg},
		{poolP(), list(6, 2, 2), by(48, math.MaxInt64), api.ErrArg},
		{pool(50, 0, 5, 6), list(0, 0), by(1<<30+1, 1), api.ErrArg},
		{pool(50, 0, 5, 6), list(0, 0), by(1, 0), api.ErrArg},
		// the order of errors
		{poolP(), list(5, 3, 2), by(0, 1), api.ErrArg},
		{poolP(), list(5, 3, 2), by(1, 1<<30+1), api.ErrArg},
		{poolT(), list(2, 2, 0), by(-1, 1), api.ErrArg},
	} {
		if e := share.CheckDivisor(x.p, x.shares, x.d); e != x.e {
			t.Errorf("%d: CheckDivisor(%v, %v, %v) = %d, want %d", i, x.p, x.shares, x.d, e, x.e)
		}
	}
}

func TestQuota(t *testing.T) { // P7.7
	for i, x := range []struct {
		p      api.SharePool
		quotas []api.Range
	}{
		// the examples of the chapter
		{poolP(), []api.Range{to(5, 6), to(2, 3), to(2, 3)}},
		{poolT(), again(3, to(1, 2))},
		// one owner, 12 owners
		{pool(50, 0, 7), again(1, just(0))},
		{pool(1, 1000, 1000000), again(1, just(1000))},
		{pool(100, 1, 1), again(1, just(1))},
		{pool(50, 1, again(12, int64(1000000))...), again(12, to(0, 1))},
		{pool(50, 1000, again(12, int64(1000000))...), again(12, to(83, 84))},
		{pool(50, 996, again(12, int64(1000000))...), again(12, just(83))},
		{pool(50, 12, again(12, int64(1))...), again(12, just(1))},
		{pool(50, 11, again(12, int64(1))...), again(12, to(0, 1))},
		{pool(50, 13, again(12, int64(1))...), again(12, to(1, 2))},
		// whole ones, and others
		{pool(50, 0, 5, 6), again(2, just(0))},
		{pool(50, 6, 1, 2, 3), []api.Range{just(1), just(2), just(3)}},
		{pool(50, 7, 1, 2, 3), []api.Range{to(1, 2), to(2, 3), to(3, 4)}},
		{pool(50, 5, 1, 2, 3), []api.Range{to(0, 1), to(1, 2), to(2, 3)}},
		{pool(50, 1000, 1000000, 1), []api.Range{to(999, 1000), to(0, 1)}},
		{pool(50, 1000, 999999, 1), []api.Range{to(999, 1000), to(0, 1)}},
		{pool(50, 1000, 999000, 1000), []api.Range{just(999), just(1)}},
		{pool(50, 1, 1, 1000000), again(2, to(0, 1))},
		{pool(50, 3, 2, 1), []api.Range{just(2), just(1)}},
	} {
		for owner, want := range x.quotas {
			if got, e := share.Quota(x.p, owner); got != want || e != api.OK {
				t.Errorf("%d: Quota(%v, %d) = %v, %d, want %v", i, x.p, owner, got, e, want)
			}
		}
	}
}
