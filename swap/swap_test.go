package swap_test

import (
	"math"
	"slices"
	"testing"

	"peavey/api"
	"peavey/swap"
)

func list(x ...int) []int     { return x }
func sums(x ...int64) []int64 { return x }
func debt(from, to int, sum int64) api.SwapDebt {
	return api.SwapDebt{From: from, To: to, Sum: sum}
}

// debts is a list of debts, of three numbers each.
func debts(x ...int) []api.SwapDebt {
	var l []api.SwapDebt
	for d := range slices.Chunk(x, 3) {
		l = append(l, debt(d[0], d[1], int64(d[2])))
	}
	return l
}

func book(mills int, x ...int) api.SwapBook {
	return api.SwapBook{Mills: mills, Debts: debts(x...)}
}

// bookB, bookE and bookK are the books B, E and K of the chapter.
func bookB() api.SwapBook { return book(5, 0, 1, 30, 1, 2, 10, 2, 0, 10, 3, 4, 15) }
func bookE() api.SwapBook { return book(6, 1, 0, 1, 3, 2, 2, 5, 4, 3) }
func bookK() api.SwapBook { return book(2, 0, 1, 5) }

// again is something so many times.
func again[T any](many int, x T) []T { return slices.Repeat([]T{x}, many) }

// pairs is the first so many debts of each mill to each other one, all of one sum; the last mills come first.
func pairs(mills, many int, sum int64) api.SwapBook {
	b := api.SwapBook{Mills: mills}
	for from := mills - 1; from >= 0; from-- {
		for to := mills - 1; to >= 0; to-- {
			if to != from && len(b.Debts) < many {
				b.Debts = append(b.Debts, debt(from, to, sum))
			}
		}
	}
	return b
}

// ring is debts of each mill to the next one, and of the last one to the first one.
func ring(mills int, sum int64) api.SwapBook {
	b := api.SwapBook{Mills: mills}
	for from := range mills {
		b.Debts = append(b.Debts, debt(from, (from+1)%mills, sum))
	}
	return b
}

// chain is a book with these balances, and debts only between each mill and the next one.
func chain(balances ...int64) api.SwapBook {
	b := api.SwapBook{Mills: len(balances)}
	var before int64
	for mill, balance := range balances {
		before += balance
		switch {
		case before > 0:
			b.Debts = append(b.Debts, debt(mill+1, mill, before))
		case before < 0:
			b.Debts = append(b.Debts, debt(mill, mill+1, -before))
		}
	}
	return b
}

// halves is debts of each one of the first mills to each one of as many other ones.
func halves(mills int, sum int64) api.SwapBook {
	b := api.SwapBook{Mills: 2 * mills}
	for from := range mills {
		for to := range mills {
			b.Debts = append(b.Debts, debt(from, mills+to, sum))
		}
	}
	return b
}

// singles is the sets of one mill each, of so many.
func singles(many int) []int {
	var l []int
	for mill := range many {
		l = append(l, 1<<mill)
	}
	return l
}

func TestCheckBook(t *testing.T) { // P8.1
	for i, x := range []struct {
		b api.SwapBook
		e api.Errno
	}{
		{bookB(), api.OK},
		{bookE(), api.OK},
		{bookK(), api.OK},
		// how many mills
		{book(1), api.OK},
		{book(10), api.OK},
		{book(0), api.ErrMany},
		{book(11), api.ErrMany},
		{book(-1), api.ErrMany},
		{book(math.MinInt), api.ErrMany},
		{book(math.MaxInt), api.ErrMany},
		{book(1<<32 + 1), api.ErrMany},
		{api.SwapBook{}, api.ErrMany},
		// how many debts
		{pairs(10, 40, 7), api.OK},
		{pairs(10, 40, 1000000), api.OK},
		{pairs(10, 41, 7), api.ErrMany},
		{pairs(10, 90, 7), api.ErrMany},
		{api.SwapBook{Mills: 1, Debts: make([]api.SwapDebt, 41)}, api.ErrMany},
		{api.SwapBook{Mills: 2, Debts: make([]api.SwapDebt, 1000)}, api.ErrMany},
		// From and To
		{book(2, 0, 1, 5, 1, 0, 5), api.OK},
		{book(10, 0, 9, 5, 9, 0, 5), api.OK},
		{book(2, -1, 0, 5), api.ErrArg},
		{book(2, 0, -1, 5), api.ErrArg},
		{book(2, 2, 0, 5), api.ErrArg},
		{book(2, 0, 2, 5), api.ErrArg},
		{book(10, 10, 0, 5), api.ErrArg},
		{book(10, 0, 10, 5), api.ErrArg},
		{book(1, 0, 1, 5), api.ErrArg},
		{book(1, 0, 0, 5), api.ErrArg},
		{book(3, 2, 2, 5), api.ErrArg},
		{book(3, 0, 1, 5, 1, 2, 5, 1, 1, 5), api.ErrArg},
		{book(3, 0, 3, 5, 1, 2, 5, 1, 0, 5), api.ErrArg},
		{book(3, 0, 1, 5, 3, 2, 5, 1, 0, 5), api.ErrArg},
		{book(2, math.MinInt, 0, 5), api.ErrArg},
		{book(2, 0, math.MaxInt, 5), api.ErrArg},
		{book(2, 1<<32, 1, 5), api.ErrArg},
		{book(2, math.MaxInt, math.MaxInt, 5), api.ErrArg},
		// the Sum
		{book(2, 0, 1, 1), api.OK},
		{book(2, 0, 1, 1000000), api.OK},
		{book(2, 0, 1, 0), api.ErrRange},
		{book(2, 0, 1, -1), api.ErrRange},
		{book(2, 0, 1, 1000001), api.ErrRange},
		{book(2, 0, 1, math.MinInt64), api.ErrRange},
		{book(2, 0, 1, math.MaxInt64), api.ErrRange},
		{book(2, 0, 1, 1<<32+5), api.ErrRange},
		{book(3, 0, 1, 5, 1, 2, 5, 2, 0, 0), api.ErrRange},
		{book(3, 0, 1, 1000001, 1, 2, 5, 2, 0, 5), api.ErrRange},
		// the same From and the same To
		{book(2, 0, 1, 5, 0, 1, 5), api.ErrRule},
		{book(2, 0, 1, 5, 1, 0, 5, 0, 1, 6), api.ErrRule},
		{book(3, 2, 0, 5, 0, 1, 5, 1, 2, 5, 2, 0, 1), api.ErrRule},
		{book(10, 0, 9, 5, 8, 9, 5, 8, 9, 5), api.ErrRule},
		{book(3, 0, 1, 5, 0, 2, 5, 1, 2, 5, 1, 0, 5, 2, 0, 5, 2, 1, 5), api.OK},
		// the order of errors
		{book(0, 0, 0, 0), api.ErrMany},
		{book(11, 11, 11, 0, 11, 11, 0), api.ErrMany},
		{book(2, 0, 1, 0, 0, 1, 0, 0, 2, 5), api.ErrArg},
		{book(2, 0, 1, 5, 0, 1, 5, 1, 1, 5), api.ErrArg},
		{book(2, 0, 0, 0), api.ErrArg},
		{book(2, 0, 1, 5, 0, 1, 0), api.ErrRange},
		{book(3, 0, 1, 5, 0, 1, 5, 1, 2, 1000001), api.ErrRange},
	} {
		if e := swap.CheckBook(x.b); e != x.e {
			t.Errorf("%d: CheckBook(%v) = %d, want %d", i, x.b, e, x.e)
		}
	}
}

// answers are what the functions return for a book.
type answers struct {
	t *testing.T
	b api.SwapBook
}

// is checks that a function returned an error, and beside it only zero values.
func (a answers) is(name string, e, want api.Errno, zero bool) {
	a.t.Helper()
	if e != want || !zero {
		a.t.Errorf("%s of %v: error %d, want %d; all zero: %v", name, a.b, e, want, zero)
	}
}

func (a answers) ofDrafts(drafts []api.SwapDebt, want api.Errno) {
	a.t.Helper()
	a.is("CheckDrafts", swap.CheckDrafts(a.b, drafts), want, true)
}

func (a answers) ofGroups(groups []int, want api.Errno) {
	a.t.Helper()
	n, e := swap.CheckGroups(a.b, groups)
	a.is("CheckGroups", e, want, n == 0)
}

func (a answers) ofPrices(prices []int, want api.Errno) {
	a.t.Helper()
	n, e := swap.CheckPrices(a.b, prices)
	a.is("CheckPrices", e, want, n == 0)
}

func (a answers) ofSet(set int, want api.Errno) {
	a.t.Helper()
	n, e := swap.Apart(a.b, set)
	a.is("Apart", e, want, n == 0)
}

// ofBook checks that all functions of a book alone return an error.
func (a answers) ofBook(want api.Errno) {
	a.t.Helper()
	balances, e := swap.Balances(a.b)
	a.is("Balances", e, want, len(balances) == 0)
	drafts, e := swap.Drafts(a.b)
	a.is("Drafts", e, want, len(drafts) == 0)
	n, e := swap.Fewest(a.b)
	a.is("Fewest", e, want, n == 0)
	groups, e := swap.Groups(a.b)
	a.is("Groups", e, want, len(groups) == 0)
	prices, e := swap.Prices(a.b)
	a.is("Prices", e, want, len(prices) == 0)
	circle, e := swap.Circle(a.b)
	a.is("Circle", e, want, len(circle) == 0)
	plain, e := swap.Plain(a.b)
	a.is("Plain", e, want, plain.Mills == 0 && len(plain.Debts) == 0)
}

// Every function returns the error of CheckBook first, with zero values, whatever else is wrong.
func TestErrorOfBookFirst(t *testing.T) {
	for _, b := range []api.SwapBook{{}, book(0, 0, 1, 5), book(11), book(math.MinInt), book(math.MaxInt), pairs(10, 41, 7), book(2, 0, 2, 5), book(2, 0, 0, 5), book(2, 0, 1, 0), book(2, 0, 1, 1000001), book(2, 0, 1, 5, 0, 1, 6), book(3, 0, 1, 5, 1, 0, 5, 1, 0, 5)} {
		want := swap.CheckBook(b)
		if want == api.OK {
			t.Errorf("CheckBook(%v) = OK", b)
		}
		a := answers{t, b}
		a.ofBook(want)
		for _, drafts := range [][]api.SwapDebt{nil, debts(0, 1, 5), debts(0, 1, 0), debts(0, 5, 5), make([]api.SwapDebt, 11)} {
			a.ofDrafts(drafts, want)
		}
		for _, groups := range [][]int{nil, list(3), list(1, 2), list(0), list(-1), list(1, 1), singles(11)} {
			a.ofGroups(groups, want)
		}
		for _, prices := range [][]int{nil, list(0), list(0, 1), list(0, 0, 0, 1), list(0, 0, 0, 11), make([]int, 8), make([]int, 2048)} {
			a.ofPrices(prices, want)
		}
		for _, set := range list(math.MinInt, -1, 0, 1, 3, 1024, math.MaxInt) {
			a.ofSet(set, want)
		}
	}
}

func TestBalances(t *testing.T) { // P8.1
	for i, x := range []struct {
		b        api.SwapBook
		balances []int64
	}{
		// the examples of the chapter
		{bookB(), sums(-20, 20, 0, -15, 15)},
		{bookE(), sums(1, -1, 2, -2, 3, -3)},
		{bookK(), sums(-5, 5)},
		// other ones
		{book(1), sums(0)},
		{book(10), again(10, int64(0))},
		{book(3, 0, 2, 1), sums(-1, 0, 1)},
		{book(3, 2, 0, 1), sums(1, 0, -1)},
		{book(2, 0, 1, 5, 1, 0, 7), sums(2, -2)},
		{book(2, 0, 1, 1000000, 1, 0, 1), sums(-999999, 999999)},
		{ring(10, 1000000), again(10, int64(0))},
		{pairs(10, 40, 1000000), sums(4000000, 4000000, 4000000, 4000000, 4000000, 0, -5000000, -5000000, -5000000, -5000000)},
		{halves(5, 1000000), append(again(5, int64(-5000000)), again(5, int64(5000000))...)},
		{chain(1, 2, 4, 8, 16, 32, 64, 128, 256, -511), sums(1, 2, 4, 8, 16, 32, 64, 128, 256, -511)},
		{chain(-3, 1, 2, -4, 4), sums(-3, 1, 2, -4, 4)},
	} {
		if got, e := swap.Balances(x.b); !slices.Equal(got, x.balances) || e != api.OK {
			t.Errorf("%d: Balances(%v) = %v, %d, want %v", i, x.b, got, e, x.balances)
		}
	}
}

func TestCheckDrafts(t *testing.T) { // P8.2
	million := 1000000
	for i, x := range []struct {
		b      api.SwapBook
		drafts []api.SwapDebt
		e      api.Errno
	}{
		// the examples of the chapter
		{bookB(), debts(0, 1, 20, 3, 4, 15), api.OK},
		{bookB(), debts(0, 4, 15, 0, 1, 5, 3, 1, 15), api.OK},
		{bookB(), debts(0, 1, 20), api.ErrSum},
		// no drafts
		{book(1), nil, api.OK},
		{book(10), nil, api.OK},
		{ring(3, 7), nil, api.OK},
		{bookB(), nil, api.ErrSum},
		{bookK(), nil, api.ErrSum},
		// other ones
		{bookB(), debts(3, 4, 15, 0, 1, 20), api.OK},
		{bookB(), debts(0, 1, 30, 1, 0, 10, 3, 4, 15), api.OK},
		{bookB(), debts(0, 1, 10, 0, 1, 10, 3, 4, 15), api.OK},
		{bookB(), debts(0, 2, 20, 2, 1, 20, 3, 4, 15), api.OK},
		{bookB(), debts(1, 0, 20, 4, 3, 15), api.ErrSum},
		{bookB(), debts(0, 4, 20, 3, 1, 15), api.ErrSum},
		{bookB(), debts(0, 1, 21, 3, 4, 14), api.ErrSum},
		{bookB(), debts(0, 1, 20, 3, 4, 15, 2, 4, 1), api.ErrSum},
		{bookB(), debts(0, 1, 20, 3, 4, 15, 0, 1, 20), api.ErrSum},
		{bookK(), debts(0, 1, 5), api.OK},
		{bookK(), debts(0, 1, 4), api.ErrSum},
		{bookK(), debts(0, 1, 6), api.ErrSum},
		{bookK(), debts(1, 0, 5), api.ErrSum},
		{ring(3, 7), debts(0, 1, 9, 1, 2, 9, 2, 0, 9), api.OK},
		{ring(3, 7), debts(0, 1, 9, 1, 2, 9), api.ErrSum},
		// only one mill is not settled as it should be; all others are but one
		{chain(5, 5, -10), debts(2, 0, 5, 2, 1, 4), api.ErrSum},
		{chain(5, 5, -10), debts(2, 0, 5, 2, 1, 5), api.OK},
		{chain(5, -5, 5, -5), debts(1, 0, 5, 3, 2, 4), api.ErrSum},
		// how many drafts
		{bookK(), append(again(9, debt(0, 1, 1)), debt(1, 0, 4)), api.OK},
		{bookK(), again(10, debt(0, 1, 1)), api.ErrSum},
		{bookK(), append(again(8, debt(0, 1, 1)), debts(1, 0, 1, 1, 0, 1, 1, 0, 1)...), api.ErrMany},
		{bookK(), again(1000, debt(0, 1, 1)), api.ErrMany},
		{ring(10, 7), ring(10, 9).Debts, api.OK},
		// From and To
		{bookK(), debts(0, 2, 5), api.ErrArg},
		{bookK(), debts(2, 1, 5), api.ErrArg},
		{bookK(), debts(-1, 1, 5), api.ErrArg},
		{bookK(), debts(0, -1, 5), api.ErrArg},
		{bookK(), debts(0, 0, 5), api.ErrArg},
		{bookK(), debts(0, 1, 5, 1, 1, 5), api.ErrArg},
		{bookK(), debts(9, 0, 5, 0, 1, 5), api.ErrArg},
		{bookK(), debts(math.MinInt, math.MaxInt, 5), api.ErrArg},
		{book(10), debts(0, 10, 5), api.ErrArg},
		{book(1), debts(0, 0, 5), api.ErrArg},
		// the Sum
		{bookK(), debts(0, 1, 40*million, 1, 0, 40*million-5), api.OK},
		{bookK(), debts(0, 1, 40*million), api.ErrSum},
		{bookK(), debts(0, 1, 40*million+1, 1, 0, 40*million-4), api.ErrRange},
		{bookK(), debts(0, 1, 5, 1, 0, 0), api.ErrRange},
		{bookK(), debts(0, 1, 0), api.ErrRange},
		{bookK(), debts(1, 0, -5), api.ErrRange},
		{bookK(), debts(0, 1, math.MinInt64), api.ErrRange},
		{bookK(), debts(0, 1, math.MaxInt64), api.ErrRange},
		{bookK(), debts(0, 1, 1<<32+5), api.ErrRange},
		{bookK(), debts(0, 1, million+1, 1, 0, million-4), api.OK},
		// the order of errors
		{bookK(), make([]api.SwapDebt, 11), api.ErrMany},
		{bookK(), again(11, debt(0, 9, 5)), api.ErrMany},
		{bookK(), again(11, debt(0, 1, 0)), api.ErrMany},
		{bookK(), debts(0, 1, 0, 0, 2, 5), api.ErrArg},
		{bookK(), debts(0, 1, 7, 1, 1, 5), api.ErrArg},
		{bookK(), debts(0, 1, 7, 0, 1, 0), api.ErrRange},
		{bookK(), debts(0, 1, 40*million+1), api.ErrRange},
	} {
		if e := swap.CheckDrafts(x.b, x.drafts); e != x.e {
			t.Errorf("%d: CheckDrafts(%v, %v) = %d, want %d", i, x.b, x.drafts, e, x.e)
		}
	}
}

// known is a book with all that is told of it. The plain book is left out if there are several.
type known struct {
	b      api.SwapBook
	groups int
	circle int
	plain  []api.SwapDebt
}

func books() []known {
	return []known{
		// the examples of the chapter
		{bookB(), 3, 3, debts(0, 1, 20, 3, 4, 15)},
		{bookE(), 3, 0, bookE().Debts},
		{bookK(), 1, 0, bookK().Debts},
		// no debts
		{book(1), 1, 0, nil},
		{book(2), 2, 0, nil},
		{book(10), 10, 0, nil},
		// two mills
		{book(2, 1, 0, 1000000), 1, 0, debts(1, 0, 1000000)},
		{book(2, 0, 1, 5, 1, 0, 7), 1, 2, debts(1, 0, 2)},
		{book(2, 0, 1, 7, 1, 0, 5), 1, 2, debts(0, 1, 2)},
		{book(2, 1, 0, 5, 0, 1, 5), 2, 2, nil},
		{book(10, 9, 0, 5, 0, 9, 5), 10, 2, nil},
		// debts that come by From, and then by To
		{book(4, 3, 2, 1, 3, 1, 4, 2, 1, 2, 1, 0, 5, 3, 0, 3), 2, 0, debts(1, 0, 5, 2, 1, 2, 3, 0, 3, 3, 1, 4, 3, 2, 1)},
		{book(3, 0, 2, 5, 0, 1, 5), 1, 0, debts(0, 1, 5, 0, 2, 5)},
		// circles
		{ring(3, 4), 3, 3, nil},
		{ring(10, 1000000), 10, 10, nil},
		{book(3, 2, 1, 4, 0, 2, 6, 1, 0, 9), 1, 3, debts(0, 2, 2, 1, 0, 5)},
		{book(5, 0, 1, 9, 1, 2, 9, 2, 3, 9, 3, 0, 9, 3, 4, 2, 4, 3, 2), 5, 2, nil},
		{book(5, 0, 1, 9, 1, 2, 9, 2, 3, 9, 3, 0, 9, 3, 4, 2, 4, 2, 2), 4, 3, nil},
		{book(7, 0, 1, 1, 1, 2, 1, 2, 3, 1, 3, 4, 1, 4, 5, 1, 5, 6, 1, 6, 3, 1), 6, 4, debts(0, 1, 1, 1, 2, 1, 2, 3, 1)},
		{book(8, 7, 0, 2, 0, 1, 3, 1, 2, 3, 2, 0, 3, 5, 6, 3, 6, 5, 3), 7, 2, debts(7, 0, 2)},
		{book(6, 0, 1, 1, 1, 2, 1, 2, 3, 1, 3, 4, 1, 4, 0, 1, 0, 5, 8, 5, 3, 8), 5, 4, nil},
		// from each mill of the circle on one comes to others, which lead nowhere
		{book(8, 0, 1, 1, 1, 2, 1, 2, 3, 1, 3, 0, 1, 0, 4, 1, 1, 5, 1, 2, 6, 1, 3, 7, 1), 4, 4, debts(0, 4, 1, 1, 5, 1, 2, 6, 1, 3, 7, 1)},
		{book(10, 0, 1, 2, 1, 2, 2, 2, 3, 2, 3, 4, 2, 4, 0, 2, 0, 5, 9, 1, 6, 9, 2, 7, 9, 3, 8, 9, 4, 9, 9), 5, 5, debts(0, 5, 9, 1, 6, 9, 2, 7, 9, 3, 8, 9, 4, 9, 9)},
		{pairs(4, 12, 3), 4, 2, nil},
		{pairs(6, 30, 1000000), 6, 2, nil},
		// no circle, though many ways
		{book(4, 0, 1, 1, 0, 2, 1, 0, 3, 1, 1, 2, 1, 1, 3, 1, 2, 3, 1), 2, 0, debts(0, 1, 1, 0, 2, 1, 0, 3, 1, 1, 2, 1, 1, 3, 1, 2, 3, 1)},
		{halves(5, 1000000), 5, 0, halves(5, 1000000).Debts},
		// no even set but that of all
		{book(10, 0, 9, 1, 1, 9, 2, 2, 9, 4, 3, 9, 8, 4, 9, 16, 5, 9, 32, 6, 9, 64, 7, 9, 128, 8, 9, 256), 1, 0, nil},
		{chain(-3, -5, 2, 6), 1, 0, nil},
		{chain(1, 1, 1, -3), 1, 0, nil},
		// pairs
		{chain(4, 5, 6, -4, -5, -6), 3, 0, nil},
		{chain(1, 2, 3, 4, 5, -1, -2, -3, -4, -5), 5, 0, nil},
		{chain(7, 7, 7, -7, -7, -7), 3, 0, nil},
		{chain(0, 8, 0, -8, 0), 4, 0, nil},
		// three mills owe the same as three get, and each the same as another one
		{chain(1, 2, -3, -1, -2, 3), 3, 0, nil},
		{chain(1, 2, -3, 10, 20, -30, 0), 3, 0, nil},
		// the first even set is in none of the most groups: three groups of three, of which 10 20 -30 takes one each
		{chain(10, 20, -30, -3, -7, -61, 41, 113, -83), 3, 0, nil},
		{chain(10, 20, -30, -3, -7, -61, 41, 113, -83, 0), 4, 0, nil},
		{chain(5, -5, -2, -3, 1, 4), 2, 0, nil},
		{chain(6, 1, -2, -5, -3, 8, -5), 2, 0, nil},
	}
}

func TestDrafts(t *testing.T) { // P8.3, P8.4, P8.5, P8.8, P8.9
	for i, x := range books() {
		if got, e := swap.Fewest(x.b); got != x.b.Mills-x.groups || e != api.OK {
			t.Errorf("%d: Fewest(%v) = %d, %d, want %d", i, x.b, got, e, x.b.Mills-x.groups)
		}
		drafts, e := swap.Drafts(x.b)
		if f := swap.CheckDrafts(x.b, drafts); len(drafts) != x.b.Mills-x.groups || e != api.OK || f != api.OK {
			t.Errorf("%d: Drafts(%v) = %v, %d, CheckDrafts %d, want %d", i, x.b, drafts, e, f, x.b.Mills-x.groups)
		}
		groups, e := swap.Groups(x.b)
		if n, f := swap.CheckGroups(x.b, groups); n != x.groups || e != api.OK || f != api.OK || !slices.IsSorted(groups) {
			t.Errorf("%d: Groups(%v) = %v, %d, CheckGroups %d, %d, want %d", i, x.b, groups, e, n, f, x.groups)
		}
		prices, e := swap.Prices(x.b)
		if n, f := swap.CheckPrices(x.b, prices); n != x.groups || len(prices) != 1<<x.b.Mills || e != api.OK || f != api.OK {
			t.Errorf("%d: Prices(%v) = %v, %d, CheckPrices %d, %d, want %d", i, x.b, prices, e, n, f, x.groups)
		}
	}
}

// Where there is but one way, it is known which groups and which drafts there are.
func TestOnlyGroups(t *testing.T) { // P8.3, P8.4
	for i, x := range []struct {
		b      api.SwapBook
		groups []int
		drafts []api.SwapDebt
	}{
		{bookB(), list(3, 4, 24), debts(0, 1, 20, 3, 4, 15)},
		{bookE(), list(3, 12, 48), debts(1, 0, 1, 3, 2, 2, 5, 4, 3)},
		{bookK(), list(3), debts(0, 1, 5)},
		{book(3), list(1, 2, 4), nil},
		{ring(4, 4), list(1, 2, 4, 8), nil},
		{chain(4, 5, 6, -4, -5, -6), list(9, 18, 36), debts(3, 0, 4, 4, 1, 5, 5, 2, 6)},
		{chain(1, 2, 3, 4, 5, -5, -4, -3, -2, -1), list(48, 72, 132, 258, 513), debts(5, 4, 5, 6, 3, 4, 7, 2, 3, 8, 1, 2, 9, 0, 1)},
		{chain(10, 20, -30, -3, -7, -61, 41, 113, -83), list(25, 98, 388), debts(3, 0, 3, 4, 0, 7, 5, 1, 20, 5, 6, 41, 2, 7, 30, 8, 7, 83)},
		{chain(0, -9, 0, 1, 8), list(1, 4, 26), debts(1, 3, 1, 1, 4, 8)},
	} {
		if got, e := swap.Groups(x.b); !slices.Equal(got, x.groups) || e != api.OK {
			t.Errorf("%d: Groups(%v) = %v, %d, want %v", i, x.b, got, e, x.groups)
		}
		got, e := swap.Drafts(x.b)
		for _, d := range x.drafts {
			if !slices.Contains(got, d) {
				t.Errorf("%d: Drafts(%v) = %v, want %v", i, x.b, got, x.drafts)
			}
		}
		if len(got) != len(x.drafts) || e != api.OK {
			t.Errorf("%d: Drafts(%v) = %v, %d, want %v", i, x.b, got, e, x.drafts)
		}
	}
}

func TestCheckGroups(t *testing.T) { // P8.4
	for i, x := range []struct {
		b      api.SwapBook
		groups []int
		n      int
		e      api.Errno
	}{
		// the examples of the chapter
		{bookB(), list(3, 4, 24), 3, api.OK},
		{bookB(), list(7, 24), 2, api.OK},
		{bookB(), list(3, 24), 0, api.ErrRule},
		{bookB(), list(1, 30), 0, api.ErrSum},
		// other ones, in any order
		{bookB(), list(24, 3, 4), 3, api.OK},
		{bookB(), list(24, 7), 2, api.OK},
		{bookB(), list(31), 1, api.OK},
		{bookB(), list(3, 28), 2, api.OK},
		{bookE(), list(37, 26), 2, api.OK},
		{bookE(), list(48, 15), 2, api.OK},
		{book(1), list(1), 1, api.OK},
		{book(10), singles(10), 10, api.OK},
		{book(10), list(1023), 1, api.OK},
		{halves(5, 9), list(33, 66, 132, 264, 528), 5, api.OK},
		// how many groups
		{book(1), list(1, 1), 0, api.ErrMany},
		{bookK(), list(1, 2, 3), 0, api.ErrMany},
		{bookB(), list(1, 2, 4, 8, 16, 31), 0, api.ErrMany},
		{book(10), append(singles(10), 1), 0, api.ErrMany},
		{book(10), make([]int, 1000), 0, api.ErrMany},
		// sets of at least one mill
		{bookB(), list(0), 0, api.ErrRange},
		{bookB(), list(31, 0), 0, api.ErrRange},
		{bookB(), list(0, 3, 4, 24), 0, api.ErrRange},
		{bookB(), list(32), 0, api.ErrRange},
		{bookB(), list(3, 4, 24, 32), 0, api.ErrRange},
		{bookB(), list(3, 4, 56), 0, api.ErrRange},
		{bookB(), list(-1), 0, api.ErrRange},
		{bookB(), list(math.MinInt), 0, api.ErrRange},
		{bookB(), list(math.MaxInt), 0, api.ErrRange},
		{bookB(), list(1<<32 + 31), 0, api.ErrRange},
		{book(1), list(2), 0, api.ErrRange},
		{book(10), list(1024), 0, api.ErrRange},
		// each mill in just one
		{bookB(), nil, 0, api.ErrRule},
		{bookB(), list(3), 0, api.ErrRule},
		{bookB(), list(4, 24), 0, api.ErrRule},
		{bookB(), list(3, 4, 28), 0, api.ErrRule},
		{bookB(), list(31, 31), 0, api.ErrRule},
		{bookB(), list(31, 4), 0, api.ErrRule},
		{bookB(), list(3, 4, 24, 4), 0, api.ErrRule},
		{bookB(), list(31, 31, 31), 0, api.ErrRule},
		{bookB(), list(24, 4, 1, 1, 1), 0, api.ErrRule},
		{book(3), list(3, 3, 1), 0, api.ErrRule},
		{book(3), list(6, 3), 0, api.ErrRule},
		{book(10), singles(9), 0, api.ErrRule},
		// even ones
		{bookB(), list(30, 1), 0, api.ErrSum},
		{bookB(), list(4, 9, 18), 0, api.ErrSum},
		{bookB(), list(3, 4, 8, 16), 0, api.ErrSum},
		{bookK(), list(1, 2), 0, api.ErrSum},
		{bookE(), list(3, 20, 40), 0, api.ErrSum},
		// the order of errors
		{bookK(), list(0, 0, 0), 0, api.ErrMany},
		{bookK(), list(-1, 1, 1), 0, api.ErrMany},
		{bookB(), list(3, 3, 0), 0, api.ErrRange},
		{bookB(), list(1, 1, 32), 0, api.ErrRange},
		{bookB(), list(3, -1), 0, api.ErrRange},
		{bookB(), list(1, 2, 4), 0, api.ErrRule},
		{bookB(), list(1, 1), 0, api.ErrRule},
	} {
		if n, e := swap.CheckGroups(x.b, x.groups); n != x.n || e != x.e {
			t.Errorf("%d: CheckGroups(%v, %v) = %d, %d, want %d, %d", i, x.b, x.groups, n, e, x.n, x.e)
		}
	}
}

// byCount is for each set of mills the number of its mills.
func byCount(mills int) []int {
	prices := list(0)
	for range mills {
		for _, p := range prices {
			prices = append(prices, p+1)
		}
	}
	return prices
}

func TestCheckPrices(t *testing.T) { // P8.5
	for i, x := range []struct {
		b      api.SwapBook
		prices []int
		n      int
		e      api.Errno
	}{
		// the examples of the chapter
		{bookK(), list(0, 0, 0, 1), 1, api.OK},
		{bookK(), list(0, 0, 0, 0), 0, api.ErrSum},
		{bookK(), list(0, 1, 0, 1), 0, api.ErrSum},
		{bookK(), list(0, 1, 0, 2), 2, api.OK},
		// other ones
		{bookK(), list(0, 0, 1, 2), 2, api.OK},
		{bookK(), list(0, 0, 1, 1), 0, api.ErrSum},
		{bookK(), list(0, 9, 9, 10), 10, api.OK},
		{bookK(), list(0, 10, 9, 10), 0, api.ErrSum},
		{bookK(), list(0, 9, 10, 10), 0, api.ErrSum},
		{bookK(), list(0, 0, 0, 10), 10, api.OK},
		{bookK(), list(1, 1, 1, 2), 0, api.ErrSum},
		{bookK(), list(1, 0, 0, 1), 0, api.ErrSum},
		{book(1), list(0, 1), 1, api.OK},
		{book(1), list(0, 10), 10, api.OK},
		{book(1), list(0, 0), 0, api.ErrSum},
		{book(1), list(1, 2), 0, api.ErrSum},
		{book(2), list(0, 1, 1, 2), 2, api.OK},
		{book(2), list(0, 1, 1, 1), 0, api.ErrSum},
		{book(2), list(0, 0, 1, 2), 0, api.ErrSum},
		{book(2), list(0, 1, 0, 2), 0, api.ErrSum},
		{book(2), list(0, 1, 2, 3), 3, api.OK},
		{book(2), list(0, 1, 2, 2), 0, api.ErrSum},
		{book(2), list(0, 2, 1, 2), 0, api.ErrSum},
		// a price that is less than that of a set with a mill fewer, though the set is not even
		{book(3, 0, 1, 5), list(0, 2, 0, 3, 1, 3, 2, 4), 4, api.OK},
		{book(3, 0, 1, 5), list(0, 2, 0, 3, 1, 1, 2, 4), 0, api.ErrSum},
		{book(3, 0, 1, 5), list(0, 0, 0, 1, 1, 1, 1, 2), 2, api.OK},
		{book(3, 0, 1, 5), list(0, 0, 0, 1, 1, 1, 0, 2), 0, api.ErrSum},
		{book(3, 0, 1, 5), list(0, 0, 0, 1, 1, 1, 1, 1), 0, api.ErrSum},
		// ten mills
		{book(10), byCount(10), 10, api.OK},
		{pairs(10, 40, 5), byCount(10), 10, api.OK},
		{book(10), append(byCount(10)[:1023], 9), 0, api.ErrSum},
		// how many prices
		{bookK(), nil, 0, api.ErrEqual},
		{bookK(), list(0, 0, 0), 0, api.ErrEqual},
		{bookK(), list(0, 0, 0, 1, 1), 0, api.ErrEqual},
		{bookK(), list(0, 0), 0, api.ErrEqual},
		{bookK(), list(0, 0, 0, 1, 1, 1, 1, 1), 0, api.ErrEqual},
		{book(1), list(0, 1, 1, 2), 0, api.ErrEqual},
		{book(10), byCount(10)[:1023], 0, api.ErrEqual},
		{book(10), append(byCount(10), 10), 0, api.ErrEqual},
		// each price
		{bookK(), list(0, 0, 0, 11), 0, api.ErrRange},
		{bookK(), list(0, 0, -1, 1), 0, api.ErrRange},
		{bookK(), list(-1, 0, 0, 1), 0, api.ErrRange},
		{bookK(), list(0, 11, 0, 1), 0, api.ErrRange},
		{bookK(), list(0, 0, 0, math.MaxInt), 0, api.ErrRange},
		{bookK(), list(math.MinInt, 0, 0, 1), 0, api.ErrRange},
		{bookK(), list(0, 0, 0, 1<<32+1), 0, api.ErrRange},
		// the order of errors
		{bookK(), list(-1, 11, 0), 0, api.ErrEqual},
		{bookK(), list(1, 0, 0, 0, 0), 0, api.ErrEqual},
		{bookK(), list(1, 0, 0, 11), 0, api.ErrRange},
		{bookK(), list(0, 0, -1, 0), 0, api.ErrRange},
	} {
		if n, e := swap.CheckPrices(x.b, x.prices); n != x.n || e != x.e {
			t.Errorf("%d: CheckPrices(%v, %v) = %d, %d, want %d, %d", i, x.b, x.prices, n, e, x.n, x.e)
		}
	}
}

func TestApart(t *testing.T) { // P8.6
	four := chain(1, -1, 2, -2, 4, -4, 7, -7)
	for i, x := range []struct {
		b   api.SwapBook
		set int
		n   int
		e   api.Errno
	}{
		// the examples of the chapter
		{bookB(), 3, 0, api.OK},
		{bookB(), 1, 0, api.ErrSum},
		{bookE(), 37, 1, api.OK},
		// other ones
		{bookB(), 4, 0, api.OK},
		{bookB(), 7, 0, api.OK},
		{bookB(), 24, 0, api.OK},
		{bookB(), 27, 0, api.OK},
		{bookB(), 28, 0, api.OK},
		{bookB(), 31, 0, api.OK},
		{bookE(), 26, 1, api.OK},
		{bookE(), 3, 0, api.OK},
		{bookE(), 60, 0, api.OK},
		{bookE(), 63, 0, api.OK},
		{four, 1 + 4 + 16 + 128, 2, api.OK},
		{four, 2 + 8 + 32 + 64, 2, api.OK},
		{four, 3, 0, api.OK},
		{four, 255, 0, api.OK},
		{chain(1, 2, 3, 4, -10, -1, -2, -3, -4, 10), 31, 3, api.OK},
		{chain(1, 2, 3, 4, -10, -1, -2, -3, -4, 10), 992, 3, api.OK},
		{chain(1, 2, 3, 4, -10, -1, -2, -3, -4, 10), 1023, 0, api.OK},
		{chain(1, 2, 3, 4, -10, -1, -2, -3, -4, 10), 33, 0, api.OK},
		{chain(1, 2, 3, 4, -10, -1, -2, -3, -4, 10), 33 + 4 + 8 + 128 + 256, 0, api.OK},
		{chain(10, 20, -30, -3, -7, -61, 41, 113, -83), 7, 1, api.OK},
		{book(1), 1, 0, api.OK},
		{book(10), 1, 0, api.OK},
		{book(10), 512, 0, api.OK},
		{book(10), 1023, 0, api.OK},
		// a set that is none
		{bookB(), 0, 0, api.ErrRange},
		{bookB(), -1, 0, api.ErrRange},
		{bookB(), 32, 0, api.ErrRange},
		{bookB(), 35, 0, api.ErrRange},
		{bookB(), 1<<32 + 3, 0, api.ErrRange},
		{bookB(), math.MinInt, 0, api.ErrRange},
		{bookB(), math.MaxInt, 0, api.ErrRange},
		{book(1), 2, 0, api.ErrRange},
		{book(10), 1024, 0, api.ErrRange},
		// a set that is not even
		{bookB(), 2, 0, api.ErrSum},
		{bookB(), 30, 0, api.ErrSum},
		{bookK(), 1, 0, api.ErrSum},
		{bookK(), 2, 0, api.ErrSum},
		{halves(5, 9), 31, 0, api.ErrSum},
	} {
		if n, e := swap.Apart(x.b, x.set); n != x.n || e != x.e {
			t.Errorf("%d: Apart(%v, %d) = %d, %d, want %d, %d", i, x.b, x.set, n, e, x.n, x.e)
		}
	}
}

// owed returns how much one mill owes another one in a book.
func owed(b api.SwapBook, from, to int) int64 {
	for _, d := range b.Debts {
		if d.From == from && d.To == to {
			return d.Sum
		}
	}
	return 0
}

// isCircle reports whether a list is a circle of a book.
func isCircle(b api.SwapBook, circle []int) bool {
	for i, mill := range circle {
		if slices.Contains(circle[:i], mill) || owed(b, mill, circle[(i+1)%len(circle)]) == 0 {
			return false
		}
	}
	return len(circle) >= 2
}

func TestCircle(t *testing.T) { // P8.7
	for i, x := range books() {
		got, e := swap.Circle(x.b)
		if x.circle == 0 {
			answers{t, x.b}.is("Circle", e, api.ErrNone, len(got) == 0)
			continue
		}
		if len(got) != x.circle || e != api.OK || !isCircle(x.b, got) {
			t.Errorf("%d: Circle(%v) = %v, %d, want %d mills", i, x.b, got, e, x.circle)
		}
	}
}

func TestPlain(t *testing.T) { // P8.7
	for i, x := range books() {
		got, e := swap.Plain(x.b)
		if e != api.OK || got.Mills != x.b.Mills {
			t.Errorf("%d: Plain(%v) = %v, %d", i, x.b, got, e)
		}
		if x.plain != nil && !slices.Equal(got.Debts, x.plain) {
			t.Errorf("%d: Plain(%v) = %v, want %v", i, x.b, got, x.plain)
		}
		if x.groups == x.b.Mills && len(got.Debts) > 0 {
			t.Errorf("%d: Plain(%v) = %v, but nothing is owed", i, x.b, got)
		}
	}
}
