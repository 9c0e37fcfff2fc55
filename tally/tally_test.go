package tally_test

import (
	"math"
	"slices"
	"testing"

	"peavey/api"
	"peavey/tally"
)

func list(x ...int) []int            { return x }
func longs(x ...int64) []int64       { return x }
func to(lo, hi int64) api.Range      { return api.Range{Lo: lo, Hi: hi} }
func just(x int64) api.Range         { return to(x, x) }
func any1000() api.Range             { return to(0, 1000) }
func all(x ...api.Range) []api.Range { return x }

// same is so many equal ranges.
func same(many int, r api.Range) []api.Range { return slices.Repeat(all(r), many) }

// each is a range of one number for each number.
func each(x ...int64) []api.Range {
	var l []api.Range
	for _, n := range x {
		l = append(l, just(n))
	}
	return l
}

func sheet(owners, pockets []api.Range, total api.Range, cells ...api.Range) api.TallySheet {
	return api.TallySheet{Owners: owners, Pockets: pockets, All: total, Cells: cells}
}

// one is a sheet of one cell.
func one(owner, pocket, total, cell api.Range) api.TallySheet {
	return sheet(all(owner), all(pocket), total, cell)
}

// sheetS and sheetT are the sheets S and T of the chapter.
func sheetS() api.TallySheet {
	return sheet(all(to(5, 6), just(4)), all(just(3), to(5, 8)), to(9, 10), to(0, 3), to(1, 9), to(0, 9), to(0, 2))
}

func sheetT() api.TallySheet {
	s := sheetS()
	s.Pockets[0] = just(1)
	return s
}

// wide is a sheet of which all tables have the tallies.
func wide(owners, pockets int) api.TallySheet {
	return sheet(same(owners, any1000()), same(pockets, any1000()), any1000(), same(owners*pockets, to(0, 40))...)
}

// changed is the sheet S with something else.
func changed(change func(*api.TallySheet)) api.TallySheet {
	s := sheetS()
	change(&s)
	return s
}

// ring is three owners and three pockets in a ring: each owner has logs in two of the pockets, so that one cell tells all others.
func ring() api.TallySheet {
	return sheet(each(5, 5, 5), each(5, 5, 5), just(15),
		to(0, 5), to(0, 5), just(0),
		just(0), to(0, 5), to(0, 5),
		to(0, 5), just(0), to(0, 5))
}

// stairs is five owners and five pockets, each owner with logs in his own pocket and in the next one, so that logs that are missing in the first one come from the last one.
func stairs(logs int64) api.TallySheet {
	s := sheet(same(5, just(logs)), each(logs/2, logs, logs, logs, logs+logs/2), just(5*logs), same(25, just(0))...)
	for owner := range 5 {
		s.Cells[owner*5+owner] = to(0, logs)
		s.Cells[owner*5+min(owner+1, 4)] = to(0, logs)
	}
	return s
}

// answers checks the errors that functions return, and what comes with them.
type answers struct {
	t *testing.T
}

// is checks an error, and that what comes with one is zero.
func (a answers) is(name string, args any, e, want api.Errno, zero bool) {
	a.t.Helper()
	if e != want || want != api.OK && !zero {
		a.t.Errorf("%s of %v: error %d, want %d; zero values: %t", name, args, e, want, zero)
	}
}

// ofSheet checks that the functions that take only a sheet return an error, those that need a table that has the tallies another one.
func (a answers) ofSheet(s api.TallySheet, want, right api.Errno) {
	a.t.Helper()
	a.is("CheckSheet", s, tally.CheckSheet(s), want, true)
	n, e := tally.Off(s)
	a.is("Off", s, e, want, n == 0)
	table, e := tally.Table(s)
	a.is("Table", s, e, want, len(table) == 0)
	weights, e := tally.Weights(s)
	a.is("Weights", s, e, want, len(weights) == 0)
	sure, e := tally.Sure(s)
	a.is("Sure", s, e, right, len(sure) == 0)
	sum, e := tally.Sum(s)
	a.is("Sum", s, e, right, sum == api.Range{})
}

// ofWrong, ofWeights and ofSpan check that the other functions return an error.
func (a answers) ofWrong(s api.TallySheet, table []int64, want api.Errno) {
	a.t.Helper()
	n, e := tally.Wrong(s, table)
	a.is("Wrong", []any{s, table}, e, want, n == 0)
}

func (a answers) ofWeights(s api.TallySheet, weights []int, want api.Errno) {
	a.t.Helper()
	n, e := tally.CheckWeights(s, weights)
	a.is("CheckWeights", []any{s, weights}, e, want, n == 0)
}

func (a answers) ofSpan(s api.TallySheet, owner, pocket int, want api.Errno) {
	a.t.Helper()
	r, e := tally.Span(s, owner, pocket)
	a.is("Span", []any{s, owner, pocket}, e, want, r == api.Range{})
}

// wrongSheets are sheets that are not valid, with their errors.
func wrongSheets() map[api.Errno][]api.TallySheet {
	owners := func(l ...api.Range) api.TallySheet { return changed(func(s *api.TallySheet) { s.Owners = l }) }
	pockets := func(l ...api.Range) api.TallySheet { return changed(func(s *api.TallySheet) { s.Pockets = l }) }
	cells := func(l ...api.Range) api.TallySheet { return changed(func(s *api.TallySheet) { s.Cells = l }) }
	wrong := map[api.Errno][]api.TallySheet{
		api.ErrMany: {
			{},
			owners(),
			pockets(),
			sheet(nil, nil, just(0)),
			sheet(nil, each(0), just(0)),
			sheet(each(0), nil, just(0)),
			sheet(same(6, just(0)), each(0), just(0), same(6, just(0))...),
			sheet(each(0), same(6, just(0)), just(0), same(6, just(0))...),
			sheet(same(6, just(0)), same(6, just(0)), just(0), same(36, just(0))...),
			sheet(same(1000, just(0)), each(0), just(0), same(1000, just(0))...),
			sheet(each(0), same(1000, just(0)), just(0), same(1000, just(0))...),
			// before other errors
			owners(same(6, to(4, 3))...),
			pockets(same(6, to(4, 3))...),
			sheet(nil, same(5, to(4, 3)), to(4, 3), to(4, 3)),
			sheet(same(5, to(4, 3)), nil, to(4, 3), to(4, 3)),
		},
		api.ErrEqual: {
			cells(),
			cells(same(1, just(2))...),
			cells(same(3, just(2))...),
			cells(same(5, just(2))...),
			cells(same(25, just(2))...),
			owners(just(4)),
			owners(same(3, just(4))...),
			pockets(just(4)),
			pockets(same(3, just(4))...),
			sheet(each(0), each(0), just(0)),
			sheet(each(0), each(0), just(0), each(0, 0)...),
			sheet(same(5, just(0)), same(5, just(0)), just(0), same(24, just(0))...),
			sheet(same(5, just(0)), same(5, just(0)), just(0), same(26, just(0))...),
			sheet(same(2, just(0)), same(3, just(0)), just(0), same(5, just(0))...),
			sheet(same(2, just(0)), same(3, just(0)), just(0), same(9, just(0))...),
			// before ranges
			sheet(same(2, to(4, 3)), same(2, to(-1, 3)), to(0, 1001), same(3, to(2, 1))...),
		},
	}
	for _, r := range wrongRanges() {
		for i := range 2 {
			wrong[api.ErrRange] = append(wrong[api.ErrRange],
				changed(func(s *api.TallySheet) { s.Owners[i] = r }),
				changed(func(s *api.TallySheet) { s.Pockets[i] = r }),
				changed(func(s *api.TallySheet) { s.Cells[i] = r }),
				changed(func(s *api.TallySheet) { s.Cells[2+i] = r }))
		}
		wrong[api.ErrRange] = append(wrong[api.ErrRange], changed(func(s *api.TallySheet) { s.All = r }))
	}
	return wrong
}

// wrongRanges are ranges that are not valid, or that have ends that are too small or too great.
func wrongRanges() []api.Range {
	return all(to(1, 0), to(4, 3), to(1000, 999), to(1000, 0), to(-1, 3), to(-1, -1), to(-2, -1), to(0, 1001), to(1000, 1001), to(1001, 1001), to(1001, 1000),
		to(0, -1), to(math.MinInt64, 0), to(math.MinInt64, math.MaxInt64), to(0, math.MaxInt64), to(math.MaxInt64, math.MinInt64), to(0, 1<<32), to(1<<32, 1<<32+1), to(-1<<32, 5))
}

func TestWrongSheets(t *testing.T) { // P11.1, R1, R2, R5
	a := answers{t}
	for want, sheets := range wrongSheets() {
		for _, s := range sheets {
			a.ofSheet(s, want, want)
			// The sheet comes before all other errors.
			for _, table := range [][]int64{nil, longs(1, 4, 2, 2), longs(9, 9, 9, 9), make([]int64, 25)} {
				a.ofWrong(s, table, want)
			}
			for _, weights := range [][]int{nil, list(0, 1, -1, 0, 0), list(2, 2, 2, 2, 2)} {
				a.ofWeights(s, weights, want)
			}
			for _, at := range [][2]int{{0, 0}, {1, 1}, {-1, 0}, {0, 9}} {
				a.ofSpan(s, at[0], at[1], want)
			}
		}
	}
}

func TestRightSheets(t *testing.T) { // P11.1
	a := answers{t}
	for owners := 1; owners <= 5; owners++ {
		for pockets := 1; pockets <= 5; pockets++ {
			a.ofSheet(wide(owners, pockets), api.OK, api.OK)
			a.ofSheet(sheet(same(owners, just(0)), same(pockets, just(0)), just(0), same(owners*pockets, just(0))...), api.OK, api.OK)
			a.ofSheet(sheet(same(owners, just(1000)), same(pockets, just(1000)), just(1000), same(owners*pockets, just(0))...), api.OK, api.ErrTally)
		}
	}
	for _, r := range all(just(0), just(1), just(1000), to(0, 1), to(0, 1000), to(999, 1000)) {
		a.ofSheet(one(r, r, r, r), api.OK, api.OK)
	}
	a.ofSheet(sheetS(), api.OK, api.OK)
	a.ofSheet(sheetT(), api.OK, api.ErrTally)
	a.ofSheet(ring(), api.OK, api.OK)
	a.ofSheet(stairs(200), api.OK, api.OK)
}

func TestWrong(t *testing.T) { // P11.2
	for _, x := range []struct {
		s     api.TallySheet
		table []int64
		n     int64
		e     api.Errno
	}{
		// the examples of the chapter
		{sheetS(), longs(1, 4, 2, 2), 0, api.OK},
		{sheetS(), longs(3, 1, 0, 0), 14, api.OK},
		{sheetT(), longs(1, 4, 2, 2), 2, api.OK},
		// the others that have the tallies
		{sheetS(), longs(0, 5, 3, 1), 0, api.OK},
		{sheetS(), longs(0, 6, 3, 1), 0, api.OK},
		{sheetS(), longs(1, 5, 2, 2), 0, api.OK},
		// the least and the greatest table
		{sheetS(), longs(0, 1, 0, 0), 4 + 4 + 3 + 4 + 8, api.OK},
		{sheetS(), longs(3, 9, 9, 2), 6 + 7 + 9 + 3 + 13, api.OK},
		// one tally alone
		{one(to(2, 4), any1000(), any1000(), any1000()), longs(1), 1, api.OK},
		{one(to(2, 4), any1000(), any1000(), any1000()), longs(2), 0, api.OK},
		{one(to(2, 4), any1000(), any1000(), any1000()), longs(4), 0, api.OK},
		{one(to(2, 4), any1000(), any1000(), any1000()), longs(7), 3, api.OK},
		{one(any1000(), to(2, 4), any1000(), any1000()), longs(0), 2, api.OK},
		{one(any1000(), to(2, 4), any1000(), any1000()), longs(1000), 996, api.OK},
		{one(any1000(), any1000(), to(2, 4), any1000()), longs(1), 1, api.OK},
		{one(any1000(), any1000(), to(2, 4), any1000()), longs(5), 1, api.OK},
		// what is too little for one is not set off by what is too much for another one
		{sheet(each(3, 3), each(6), just(6), to(0, 9), to(0, 9)), longs(1, 5), 4, api.OK},
		{sheet(each(6), each(3, 3), just(6), to(0, 9), to(0, 9)), longs(1, 5), 4, api.OK},
		// the cell of an owner and a pocket
		{sheet(each(6, 15), each(5, 7, 9), just(21), same(6, to(0, 9))...), longs(1, 2, 3, 4, 5, 6), 0, api.OK},
		{sheet(each(6, 15), each(5, 7, 9), just(21), same(6, to(0, 9))...), longs(1, 4, 2, 5, 3, 6), 4, api.OK},
		{sheet(each(3, 7, 11), each(9, 12), just(21), same(6, to(0, 9))...), longs(1, 2, 3, 4, 5, 6), 0, api.OK},
		// as many as there can be
		{sheet(same(5, just(0)), same(5, just(0)), just(0), same(25, just(1000))...), slices.Repeat(longs(1000), 25), 75000, api.OK},
		// not a number for each cell
		{sheetS(), nil, 0, api.ErrEqual},
		{sheetS(), longs(1, 4, 2), 0, api.ErrEqual},
		{sheetS(), longs(1, 4, 2, 2, 0), 0, api.ErrEqual},
		{sheetS(), longs(9, 9, -9), 0, api.ErrEqual},
		{sheetS(), make([]int64, 25), 0, api.ErrEqual},
		{sheetS(), make([]int64, 100), 0, api.ErrEqual},
		{wide(5, 5), make([]int64, 24), 0, api.ErrEqual},
		{wide(5, 5), make([]int64, 26), 0, api.ErrEqual},
		// not within the range of the cell
		{sheetS(), longs(4, 4, 2, 2), 0, api.ErrRange},
		{sheetS(), longs(-1, 4, 2, 2), 0, api.ErrRange},
		{sheetS(), longs(1, 0, 2, 2), 0, api.ErrRange},
		{sheetS(), longs(1, 10, 2, 2), 0, api.ErrRange},
		{sheetS(), longs(1, 4, 10, 2), 0, api.ErrRange},
		{sheetS(), longs(1, 4, 2, 3), 0, api.ErrRange},
		{sheetS(), longs(1, 4, 2, -1), 0, api.ErrRange},
		{sheetS(), longs(math.MinInt64, 4, 2, 2), 0, api.ErrRange},
		{sheetS(), longs(1, math.MaxInt64, 2, 2), 0, api.ErrRange},
		{sheetS(), longs(1<<32+1, 4, 2, 2), 0, api.ErrRange},
	} {
		n, e := tally.Wrong(x.s, x.table)
		if n != x.n || e != x.e {
			t.Errorf("Wrong(%v, %v) = %d, %d, want %d, %d", x.s, x.table, n, e, x.n, x.e)
		}
	}
}

func TestCheckWeights(t *testing.T) { // P11.4
	for _, x := range []struct {
		s       api.TallySheet
		weights []int
		n       int64
		e       api.Errno
	}{
		// the examples of the chapter
		{sheetT(), list(0, 1, -1, 0, 0), 1, api.OK},
		{sheetS(), list(0, 1, -1, 0, 0), -1, api.OK},
		{sheetS(), list(0, 0, 0, 0, 0), 0, api.OK},
		// one weight alone
		{sheetS(), list(1, 0, 0, 0, 0), 5 - 12, api.OK},
		{sheetS(), list(-1, 0, 0, 0, 0), -6 + 1, api.OK},
		{sheetS(), list(0, 1, 0, 0, 0), 4 - 11, api.OK},
		{sheetS(), list(0, -1, 0, 0, 0), -4, api.OK},
		{sheetS(), list(0, 0, 1, 0, 0), 3 - 12, api.OK},
		{sheetS(), list(0, 0, -1, 0, 0), -3, api.OK},
		{sheetS(), list(0, 0, 0, 1, 0), 5 - 11, api.OK},
		{sheetS(), list(0, 0, 0, -1, 0), -8 + 1, api.OK},
		{sheetS(), list(0, 0, 0, 0, 1), 9 - 23, api.OK},
		{sheetS(), list(0, 0, 0, 0, -1), -10 + 1, api.OK},
		// several
		{sheetS(), list(1, 1, 1, 1, 1), 26 - 69, api.OK},
		{sheetS(), list(-1, -1, -1, -1, -1), -31 + 3, api.OK},
		{sheetS(), list(1, 1, 0, 0, -1), -1, api.OK},
		{sheetS(), list(1, 1, -1, -1, 0), -2, api.OK},
		{sheetS(), list(1, 0, -1, 0, 1), 5 - 3 + 9 - 3 - 18 - 2, api.OK},
		// the most
		{sheet(same(5, just(1000)), same(5, just(1000)), just(1000), same(25, just(0))...), slices.Repeat(list(1), 11), 11000, api.OK},
		{sheet(same(5, just(0)), same(5, just(0)), just(0), same(25, just(1000))...), slices.Repeat(list(-1), 11), 75000, api.OK},
		{sheet(same(5, just(0)), same(5, just(0)), just(0), same(25, just(1000))...), slices.Repeat(list(1), 11), -75000, api.OK},
		// not as many as described
		{sheetS(), nil, 0, api.ErrEqual},
		{sheetS(), list(0, 0, 0, 0), 0, api.ErrEqual},
		{sheetS(), list(0, 0, 0, 0, 0, 0), 0, api.ErrEqual},
		{sheetS(), list(2, 0, 0, -2), 0, api.ErrEqual},
		{wide(5, 5), make([]int, 10), 0, api.ErrEqual},
		{wide(5, 5), make([]int, 12), 0, api.ErrEqual},
		{wide(2, 3), make([]int, 5), 0, api.ErrEqual},
		// numbers that are none of the three
		{sheetS(), list(2, 0, 0, 0, 0), 0, api.ErrRange},
		{sheetS(), list(0, -2, 0, 0, 0), 0, api.ErrRange},
		{sheetS(), list(0, 0, 0, 2, 0), 0, api.ErrRange},
		{sheetS(), list(0, 0, 0, 0, -2), 0, api.ErrRange},
		{sheetS(), list(0, 0, 0, 0, math.MaxInt), 0, api.ErrRange},
		{sheetS(), list(math.MinInt, 0, 0, 0, 0), 0, api.ErrRange},
		{sheetS(), list(1<<32+1, 0, 0, 0, 0), 0, api.ErrRange},
	} {
		n, e := tally.CheckWeights(x.s, x.weights)
		if n != x.n || e != x.e {
			t.Errorf("CheckWeights(%v, %v) = %d, %d, want %d, %d", x.s, x.weights, n, e, x.n, x.e)
		}
	}
}

// known is a sheet with what the functions return.
type known struct {
	s     api.TallySheet
	off   int64
	spans []api.Range // nil if no table has the tallies
	sum   api.Range
	sure  []int
}

func knownSheets() []known {
	return []known{
		// the examples of the chapter
		{sheetS(), 0, all(to(0, 1), to(4, 6), to(2, 3), to(1, 2)), to(9, 10), nil},
		{sheetT(), 1, nil, to(0, 0), nil},
		// one cell: its own range, that of its owner, of its pocket, and All
		{one(any1000(), any1000(), any1000(), to(7, 9)), 0, all(to(7, 9)), to(7, 9), nil},
		{one(to(3, 8), to(5, 20), to(0, 6), any1000()), 0, all(to(5, 6)), to(5, 6), nil},
		{one(to(3, 8), to(5, 20), to(0, 5), any1000()), 0, each(5), just(5), list(0)},
		{one(to(3, 8), to(5, 20), to(0, 4), any1000()), 1, nil, to(0, 0), nil},
		{one(to(0, 5), to(0, 5), to(0, 5), to(7, 9)), 6, nil, to(0, 0), nil},
		{one(to(8, 9), to(8, 9), to(8, 9), to(2, 5)), 9, nil, to(0, 0), nil},
		{one(just(1), just(5), just(9), to(0, 100)), 8, nil, to(0, 0), nil},
		{one(just(0), just(0), just(0), just(0)), 0, each(0), just(0), list(0)},
		{one(just(1000), just(1000), just(1000), just(1000)), 0, each(1000), just(1000), list(0)},
		{one(just(0), just(0), just(0), just(1000)), 3000, nil, to(0, 0), nil},
		{one(just(1000), just(1000), just(1000), just(0)), 3000, nil, to(0, 0), nil},
		// one owner, one pocket
		{sheet(all(to(2, 9)), all(to(1, 2), to(3, 4), to(5, 6)), to(10, 11), same(3, to(0, 9))...), 1, nil, to(0, 0), nil},
		{sheet(all(to(2, 9)), all(to(1, 2), to(3, 4), to(5, 6)), to(0, 11), same(3, to(0, 9))...), 0, each(1, 3, 5), just(9), list(0, 1, 2)},
		{sheet(all(to(2, 10)), all(to(1, 2), to(3, 4), to(5, 6)), to(0, 11), same(3, to(0, 9))...), 0, all(to(1, 2), to(3, 4), to(5, 6)), to(9, 10), nil},
		{sheet(each(1, 2, 3), all(to(6, 7)), to(5, 6), same(3, to(0, 9))...), 0, each(1, 2, 3), just(6), list(0, 1, 2)},
		// owners, pockets and All contradict one another
		{sheet(each(5, 5), each(2, 9), any1000(), same(4, to(0, 9))...), 1, nil, to(0, 0), nil},
		{sheet(each(5, 5), each(2, 8), to(11, 12), same(4, to(0, 9))...), 1, nil, to(0, 0), nil},
		{sheet(each(5, 5), each(2, 8), to(7, 9), same(4, to(0, 9))...), 1, nil, to(0, 0), nil},
		{sheet(each(5, 5), each(2, 8), any1000(), same(4, to(0, 9))...), 0, all(to(0, 2), to(3, 5), to(0, 2), to(3, 5)), just(10), nil},
		{sheet(each(5, 5), each(2, 8), any1000(), to(2, 9), to(0, 9), to(0, 9), to(0, 9)), 0, each(2, 3, 0, 5), just(10), list(0, 1, 2, 3)},
		{sheet(each(5, 5), each(2, 8), any1000(), to(3, 9), to(0, 9), to(0, 9), to(0, 9)), 2, nil, to(0, 0), nil},
		// only All says something
		{sheet(same(2, any1000()), same(2, any1000()), to(3, 5), to(1, 2), to(1, 9), to(0, 9), to(0, 1)), 0, all(to(1, 2), to(1, 4), to(0, 3), to(0, 1)), to(3, 5), nil},
		{sheet(same(2, any1000()), same(2, any1000()), to(0, 2), to(1, 2), to(1, 9), to(0, 9), to(0, 1)), 0, each(1, 1, 0, 0), just(2), list(0, 1, 2, 3)},
		{sheet(same(2, any1000()), same(2, any1000()), just(1), to(1, 2), to(1, 9), to(0, 9), to(0, 1)), 1, nil, to(0, 0), nil},
		// some cells are sure, others not
		{sheet(each(1, 1, 1), each(1, 1, 1), just(3), to(0, 1), to(0, 1), just(0), to(0, 1), to(0, 1), just(0), to(0, 1), to(0, 1), to(0, 1)), 0,
			all(to(0, 1), to(0, 1), just(0), to(0, 1), to(0, 1), just(0), just(0), just(0), just(1)), just(3), list(2, 5, 6, 7, 8)},
		{ring(), 0, all(to(0, 5), to(0, 5), just(0), just(0), to(0, 5), to(0, 5), to(0, 5), just(0), to(0, 5)), just(15), list(2, 3, 7)},
		// many steps
		{stairs(200), 0, stairsTable(200), just(1000), upTo(25)},
		// as many as there can be
		{sheet(same(5, just(1000)), same(5, just(1000)), just(1000), same(25, any1000())...), 4000, nil, to(0, 0), nil},
		{sheet(same(5, just(1000)), same(5, just(1000)), just(0), same(25, any1000())...), 5000, nil, to(0, 0), nil},
		{sheet(same(5, just(0)), same(5, just(0)), just(0), same(25, just(1000))...), 75000, nil, to(0, 0), nil},
		{sheet(same(5, just(1000)), same(5, just(1000)), just(1000), same(25, just(0))...), 11000, nil, to(0, 0), nil},
		{sheet(same(5, just(200)), same(5, to(0, 200)), any1000(), same(25, any1000())...), 0, same(25, to(0, 200)), just(1000), nil},
		{sheet(same(5, any1000()), same(5, any1000()), any1000(), same(25, any1000())...), 0, same(25, any1000()), any1000(), nil},
		{wide(5, 5), 0, same(25, to(0, 40)), to(0, 1000), nil},
	}
}

// stairsTable is the only table that has the tallies of the stairs: half of the logs go up each step.
func stairsTable(logs int64) []api.Range {
	l := same(25, just(0))
	for owner := range 4 {
		l[owner*5+owner], l[owner*5+owner+1] = just(logs/2), just(logs/2)
	}
	l[24] = just(logs)
	return l
}

// upTo is the numbers from 0 on, so many.
func upTo(many int) []int {
	var l []int
	for i := range many {
		l = append(l, i)
	}
	return l
}

func TestOffTableAndWeights(t *testing.T) { // P11.3, P11.4
	for _, x := range knownSheets() {
		off, e := tally.Off(x.s)
		if off != x.off || e != api.OK {
			t.Errorf("Off(%v) = %d, %d, want %d", x.s, off, e, x.off)
		}
		table, e := tally.Table(x.s)
		if n, f := tally.Wrong(x.s, table); n != x.off || e != api.OK || f != api.OK {
			t.Errorf("Table(%v) = %v, %d, which is wrong by %d, %d, want %d", x.s, table, e, n, f, x.off)
		}
		weights, e := tally.Weights(x.s)
		if n, f := tally.CheckWeights(x.s, weights); n != x.off || e != api.OK || f != api.OK {
			t.Errorf("Weights(%v) = %v, %d, of which the bound is %d, %d, want %d", x.s, weights, e, n, f, x.off)
		}
	}
}

func TestSpanSureAndSum(t *testing.T) { // P11.5, P11.6, P11.7
	for _, x := range knownSheets() {
		want := api.OK
		if x.off > 0 {
			want = api.ErrTally
			x.spans = make([]api.Range, len(x.s.Cells))
		}
		for cell := range x.s.Cells {
			r, e := tally.Span(x.s, cell/len(x.s.Pockets), cell%len(x.s.Pockets))
			if r != x.spans[cell] || e != want {
				t.Errorf("Span(%v) of the cell %d = %v, %d, want %v, %d", x.s, cell, r, e, x.spans[cell], want)
			}
		}
		sure, e := tally.Sure(x.s)
		if !slices.Equal(sure, x.sure) || e != want {
			t.Errorf("Sure(%v) = %v, %d, want %v, %d", x.s, sure, e, x.sure, want)
		}
		sum, e := tally.Sum(x.s)
		if sum != x.sum || e != want {
			t.Errorf("Sum(%v) = %v, %d, want %v, %d", x.s, sum, e, x.sum, want)
		}
	}
}

func TestNoSuchCell(t *testing.T) { // P11.5, R1, R2, R5
	a := answers{t}
	for _, at := range [][2]int{{2, 0}, {0, 2}, {-1, 0}, {0, -1}, {2, -1}, {-1, 2}, {1, -1}, {-1, 3}, {2, 2}, {math.MinInt, 0}, {0, math.MinInt}, {math.MaxInt, 0}, {0, math.MaxInt}, {1 << 32, 0}, {0, 1 << 32}} {
		a.ofSpan(sheetS(), at[0], at[1], api.ErrArg)
		// before what contradicts
		a.ofSpan(sheetT(), at[0], at[1], api.ErrArg)
	}
	three := wide(2, 3)
	a.ofSpan(three, 1, 2, api.OK)
	a.ofSpan(three, 2, 1, api.ErrArg)
	a.ofSpan(three, 0, 3, api.ErrArg)
	a.ofSpan(wide(5, 5), 4, 4, api.OK)
	a.ofSpan(wide(5, 5), 4, 5, api.ErrArg)
	a.ofSpan(wide(5, 5), 5, 4, api.ErrArg)
	a.ofSpan(sheetT(), 1, 1, api.ErrTally)
}
