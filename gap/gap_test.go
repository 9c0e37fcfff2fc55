package gap_test

import (
	"math"
	"slices"
	"testing"

	"peavey/api"
	"peavey/gap"
)

func list(x ...int) []int      { return x }
func lists(x ...[]int) [][]int { return x }
func row(x ...int64) []int64   { return x }

// rowH and rowE are the rows H and E of the chapter.
func rowH() []int64 { return row(5, 2, 8, 1, 9, 3, 7, 4, 6) }
func rowE() []int64 { return row(2, 2, 1, 2) }

// up is the row 1 2 3 .. of so many logs, down the same one from its end.
func up(logs int) []int64 {
	var r []int64
	for i := range logs {
		r = append(r, int64(i+1))
	}
	return r
}

func down(logs int) []int64 {
	r := up(logs)
	slices.Reverse(r)
	return r
}

// equal is a row of so many logs that are wanted at once.
func equal(logs int) []int64 { return slices.Repeat(row(7), logs) }

// indexes is 0 1 2 .. of so many.
func indexes(many int) []int {
	var l []int
	for i := range many {
		l = append(l, i)
	}
	return l
}

// oneEach is so many lists of one index each.
func oneEach(many int) [][]int {
	var l [][]int
	for i := range many {
		l = append(l, list(i))
	}
	return l
}

func TestCheckRow(t *testing.T) { // P3.1
	for i, x := range []struct {
		row []int64
		e   api.Errno
	}{
		{rowH(), api.OK},
		{rowE(), api.OK},
		{nil, api.OK},
		{row(1), api.OK},
		{row(api.MaxNumber), api.OK},
		{up(30), api.OK},
		{up(31), api.ErrMany},
		{equal(1000), api.ErrMany},
		{row(0), api.ErrRange},
		{row(3, 2, 0), api.ErrRange},
		{row(-1, 3), api.ErrRange},
		{row(1, api.MaxNumber+1, 2), api.ErrRange},
		{row(math.MinInt64), api.ErrRange},
		{row(math.MaxInt64), api.ErrRange},
		{append(up(29), 0), api.ErrRange},
		{append(up(30), 0), api.ErrMany}, // the order of errors
		{make([]int64, 31), api.ErrMany},
	} {
		if e := gap.CheckRow(x.row); e != x.e {
			t.Errorf("%d: CheckRow(%v) = %d, want %d", i, x.row, e, x.e)
		}
	}
}

// Every function returns the error of CheckRow first, then that of many, with zero values, whatever else is wrong.
func TestErrorOfRowAndManyFirst(t *testing.T) {
	for _, r := range [][]int64{up(31), row(0), row(4, api.MaxNumber+1), make([]int64, 31), rowH(), nil} {
		for _, many := range list(0, 1, 30, 31, -1, math.MinInt, math.MaxInt) {
			ofRow := gap.CheckRow(r)
			ofMany := ofRow
			if ofMany == api.OK && (many < 0 || many > 30) {
				ofMany = api.ErrArg
			}
			check := func(name string, e, want api.Errno, zero bool) {
				if want != api.OK && (e != want || !zero) {
					t.Errorf("%s of %v, %d: error %d, want %d; all zero: %v", name, r, many, e, want, zero)
				}
			}
			taken, e := gap.CheckTurning(r, many, list(-9, 99))
			check("CheckTurning", e, ofMany, taken == 0)
			turning, e := gap.Turning(r, many)
			check("Turning", e, ofMany, len(turning) == 0)
			most, e := gap.Most(r, many)
			check("Most", e, ofMany, most == 0)
			fewest, e := gap.Fewest(r)
			check("Fewest", e, ofRow, fewest == 0)
			place, e := gap.Place(r)
			check("Place", e, ofRow, len(place) == 0)
			check("CheckRun", gap.CheckRun(r, list(-1)), ofRow, true)
			run, e := gap.Run(r)
			check("Run", e, ofRow, len(run) == 0)
			bound, e := gap.CheckRuns(r, many, make([][]int, 31))
			check("CheckRuns", e, ofMany, bound == 0)
			runs, e := gap.Runs(r, many)
			check("Runs", e, ofMany, len(runs) == 0)
			shape, e := gap.Shape(r)
			check("Shape", e, ofRow, len(shape) == 0)
		}
	}
}

func TestCheckTurning(t *testing.T) { // P3.2
	for i, x := range []struct {
		row     []int64
		many    int
		turning []int
		want    int
		e       api.Errno
	}{
		{rowH(), 2, list(0, 1, 0, -1, 0, 1, 1, -1, -1), 6, api.OK}, // the examples of the chapter
		{rowH(), 2, list(-1, 0, 0, 1, 0, 1, -1, 1, 1), 7, api.OK},
		{rowH(), 2, list(0, 0, 0, 1, 0, 1, -1, 1, 1), 0, api.ErrRule},
		{nil, 0, nil, 0, api.OK},
		{nil, 30, nil, 0, api.OK},
		{row(4), 1, list(0), 1, api.OK},
		{row(4), 1, list(-1), 0, api.OK},
		{row(4), 0, list(-1), 0, api.OK},
		{row(4), 30, list(29), 1, api.OK}, // the last pocket; those before it stay empty
		{down(30), 30, indexes(30), 30, api.OK},
		{up(30), 1, make([]int, 30), 30, api.OK},
		{equal(30), 1, make([]int, 30), 30, api.OK}, // logs that are wanted at once, in any order
		{rowE(), 1, list(0, 0, -1, 0), 3, api.OK},
		{rowE(), 1, list(-1, -1, 0, 0), 2, api.OK},
		{row(1, api.MaxNumber), 1, list(0, 0), 2, api.OK},
		{rowE(), 1, list(0, 0, 0, -1), 0, api.ErrRule},
		{row(2, 1), 1, list(0, 0), 0, api.ErrRule},
		{row(api.MaxNumber, 1), 1, list(0, 0), 0, api.ErrRule},
		{row(3, 9, 9, 2), 2, list(1, 0, -1, 1), 0, api.ErrRule}, // others are between them
		{row(3, 9, 4, 5), 1, list(0, 0, -1, 0), 0, api.ErrRule}, // increasing up to the one before
		{down(30), 30, append(indexes(29), 28), 0, api.ErrRule},
		{rowE(), 1, list(0, 0, -1), 0, api.ErrEqual},
		{rowE(), 1, list(0, 0, -1, 0, -1), 0, api.ErrEqual},
		{rowE(), 1, nil, 0, api.ErrEqual},
		{nil, 1, list(-1), 0, api.ErrEqual},
		{rowE(), 1, list(0, 0, -2, 0), 0, api.ErrRange},
		{rowE(), 1, list(0, 0, 1, 0), 0, api.ErrRange},
		{rowE(), 0, list(-1, -1, -1, 0), 0, api.ErrRange},
		{rowE(), 30, list(0, 0, 30, 0), 0, api.ErrRange},
		{rowE(), 2, list(0, math.MaxInt, 1, 0), 0, api.ErrRange},
		{rowE(), 2, list(0, math.MinInt, 1, 0), 0, api.ErrRange},
		// the order of errors
		{rowE(), 1, list(0, 0, 0, 9, 0), 0, api.ErrEqual},
		{rowE(), 1, list(0, 0, 0, 9), 0, api.ErrRange},
		{rowE(), 1, list(-2, 0, 0, 0), 0, api.ErrRange},
	} {
		if got, e := gap.CheckTurning(x.row, x.many, x.turning); got != x.want || e != x.e {
			t.Errorf("%d: CheckTurning(%v, %d, %v) = %d, %d, want %d, %d", i, x.row, x.many, x.turning, got, e, x.want, x.e)
		}
	}
}

// known is a row with its shape, its placing and its longest run.
type known struct {
	row               []int64
	shape, place, run []int
}

func rows() []known {
	return []known{
		// the examples of the chapter
		{rowH(), list(4, 3, 2), list(0, 1, 0, 2, 0, 1, 1, 2, 2), list(0, 1, 3)},
		{rowE(), list(3, 1), list(0, 0, 1, 0), list(0, 2)},
		{nil, nil, nil, nil},
		// one log, and 30
		{row(1), list(1), list(0), list(0)},
		{row(api.MaxNumber), list(1), list(0), list(0)},
		{equal(30), list(30), make([]int, 30), list(0)},
		{up(30), list(30), make([]int, 30), list(0)},
		{down(30), slices.Repeat(list(1), 30), indexes(30), indexes(30)},
		// two logs
		{row(4, 4), list(2), list(0, 0), list(0)},
		{row(4, 5), list(2), list(0, 0), list(0)},
		{row(5, 4), list(1, 1), list(0, 1), list(0, 1)},
		{row(api.MaxNumber, 1), list(1, 1), list(0, 1), list(0, 1)},
		// several longest runs: the first one in lexicographic order
		{row(2, 1, 4, 3), list(2, 2), list(0, 1, 0, 1), list(0, 1)},
		{row(1, 3, 2, 1), list(2, 1, 1), list(0, 0, 1, 2), list(1, 2, 3)},
		{row(4, 3, 3, 2), list(2, 1, 1), list(0, 1, 1, 2), list(0, 1, 3)},
		{row(5, 9, 8, 4, 4), list(2, 2, 1), list(0, 0, 1, 2, 2), list(1, 2, 3)},
		{row(5, 9, 4, 8, 3, 7), list(2, 2, 2), list(0, 0, 1, 1, 2, 2), list(0, 2, 4)},
		// the first log of a run is not the first one of the longest
		{row(2, 9, 1, 8, 7), list(2, 2, 1), list(0, 0, 1, 1, 2), list(1, 3, 4)},
		// one pocket takes four logs that are in no two pockets which take all
		{row(3, 4, 1, 2, 5, 6), list(4, 2), list(0, 0, 1, 1, 0, 0), list(0, 2)},
		{row(2, 3, 7, 8, 1, 4, 5, 6, 9), list(6, 3), list(0, 0, 0, 0, 1, 1, 1, 1, 0), list(0, 4)},
	}
}

func TestMost(t *testing.T) { // P3.2, P3.3, P3.6, P3.7
	for i, x := range rows() {
		if got, e := gap.Shape(x.row); !slices.Equal(got, x.shape) || e != api.OK {
			t.Errorf("%d: Shape(%v) = %v, %d, want %v", i, x.row, got, e, x.shape)
		}
		if got, e := gap.Fewest(x.row); got != len(x.shape) || e != api.OK {
			t.Errorf("%d: Fewest(%v) = %d, %d, want %d", i, x.row, got, e, len(x.shape))
		}
		want := 0
		for many := range api.MaxGapPockets + 1 { // also none, and more than are needed
			if many > 0 && many <= len(x.shape) {
				want += x.shape[many-1]
			}
			if got, e := gap.Most(x.row, many); got != want || e != api.OK {
				t.Errorf("%d: Most(%v, %d) = %d, %d, want %d", i, x.row, many, got, e, want)
			}
			turning, e := gap.Turning(x.row, many)
			if got, f := gap.CheckTurning(x.row, many, turning); e != api.OK || f != api.OK || got != want {
				t.Errorf("%d: Turning(%v, %d) = %v, %d; it takes %d, %d, not %d", i, x.row, many, turning, e, got, f, want)
			}
			runs, e := gap.Runs(x.row, many)
			if got, f := gap.CheckRuns(x.row, many, runs); e != api.OK || f != api.OK || got != want {
				t.Errorf("%d: Runs(%v, %d) = %v, %d; their bound is %d, %d, not %d", i, x.row, many, runs, e, got, f, want)
			}
		}
	}
}

func TestPlace(t *testing.T) { // P3.4
	for i, x := range rows() {
		if got, e := gap.Place(x.row); !slices.Equal(got, x.place) || e != api.OK {
			t.Errorf("%d: Place(%v) = %v, %d, want %v", i, x.row, got, e, x.place)
		}
	}
}

func TestRun(t *testing.T) { // P3.5
	for i, x := range rows() {
		if got, e := gap.Run(x.row); !slices.Equal(got, x.run) || e != api.OK {
			t.Errorf("%d: Run(%v) = %v, %d, want %v", i, x.row, got, e, x.run)
		}
	}
}

func TestCheckRun(t *testing.T) { // P3.5
	for i, x := range []struct {
		row []int64
		run []int
		e   api.Errno
	}{
		{rowH(), list(4, 6, 8), api.OK}, // the examples of the chapter
		{rowH(), list(2, 4), api.ErrRule},
		{rowH(), list(0, 1, 3), api.OK},
		{rowH(), list(0), api.OK},
		{rowH(), list(8), api.OK},
		{rowH(), nil, api.OK},
		{nil, nil, api.OK},
		{down(30), indexes(30), api.OK},
		{row(api.MaxNumber, 1), list(0, 1), api.OK},
		{rowE(), list(0, 1), api.ErrRule}, // equal numbers
		{rowE(), list(2, 3), api.ErrRule},
		{rowH(), list(0, 1, 3, 5), api.ErrRule}, // only the last one
		{rowH(), list(0, 2, 3), api.ErrRule},    // only the first two
		{rowH(), list(4, 4), api.ErrRange},
		{rowH(), list(6, 4), api.ErrRange},
		{rowH(), list(3, 1, 0), api.ErrRange},
		{rowH(), list(0, 9), api.ErrRange},
		{rowH(), list(9), api.ErrRange},
		{rowH(), list(-1), api.ErrRange},
		{rowH(), list(-1, 0), api.ErrRange},
		{rowH(), list(math.MinInt, math.MaxInt), api.ErrRange},
		{nil, list(0), api.ErrRange},
		// the order of errors
		{rowH(), list(2, 4, 9), api.ErrRange},
		{rowH(), list(2, 4, 4), api.ErrRange},
	} {
		if e := gap.CheckRun(x.row, x.run); e != x.e {
			t.Errorf("%d: CheckRun(%v, %v) = %d, want %d", i, x.row, x.run, e, x.e)
		}
	}
}

func TestCheckRuns(t *testing.T) { // P3.6
	parts := func(last ...[]int) [][]int { return append(lists(list(0, 1, 3), list(2, 6, 7)), last...) }
	for i, x := range []struct {
		row  []int64
		many int
		runs [][]int
		want int
		e    api.Errno
	}{
		{rowH(), 2, parts(list(4, 5), list(8)), 7, api.OK}, // the examples of the chapter
		{rowH(), 2, parts(list(4, 5)), 0, api.ErrSum},
		{rowH(), 1, lists(list(0, 1, 3), list(2, 5), list(4, 6, 7), list(8)), 4, api.OK},
		{rowH(), 0, parts(list(4, 5), list(8)), 0, api.OK},
		{rowH(), 3, parts(list(4, 5), list(8)), 9, api.OK},
		{rowH(), 30, parts(list(4, 5), list(8)), 9, api.OK},
		{rowH(), 2, append(lists(nil, list(8)), parts(nil, list(4, 5))...), 7, api.OK}, // empty runs, in any order
		{rowH(), 1, oneEach(9), 9, api.OK},
		{nil, 3, nil, 0, api.OK},
		{nil, 3, make([][]int, 30), 0, api.OK},
		{row(4), 1, lists(list(0)), 1, api.OK},
		{row(4), 0, lists(list(0)), 0, api.OK},
		{down(30), 7, lists(indexes(30)), 7, api.OK},
		{up(30), 7, oneEach(30), 30, api.OK},
		{rowH(), 2, nil, 0, api.ErrSum}, // none of the row
		{rowH(), 2, make([][]int, 30), 0, api.ErrSum},
		{row(4), 1, lists(nil), 0, api.ErrSum},
		{rowH(), 2, parts(list(4, 5), list(8), list(8)), 0, api.ErrSum}, // a log twice
		{rowH(), 2, parts(list(4, 5), list(4, 8)), 0, api.ErrSum},
		{rowH(), 2, parts(list(4, 5), list(5)), 0, api.ErrSum}, // twice, and another one not
		{rowH(), 2, parts(list(5), list(8)), 0, api.ErrSum},
		{rowH(), 2, parts(list(4, 8), list(5, 7)), 0, api.ErrRule},
		{rowE(), 2, lists(list(0, 1), list(2), list(3)), 0, api.ErrRule}, // equal numbers
		{rowE(), 2, lists(list(0, 2), list(1), list(3)), 4, api.OK},
		{rowH(), 2, parts(list(4, 5, 9), list(8)), 0, api.ErrRange},
		{rowH(), 2, parts(list(4, 4), list(8)), 0, api.ErrRange},
		{rowH(), 2, parts(list(5, 4), list(8)), 0, api.ErrRange},
		{rowH(), 2, parts(list(4, 5), list(-1)), 0, api.ErrRange},
		{rowH(), 2, parts(list(math.MinInt), list(math.MaxInt)), 0, api.ErrRange},
		{nil, 2, lists(list(0)), 0, api.ErrRange},
		{nil, 3, make([][]int, 31), 0, api.ErrMany},
		{up(30), 7, append(oneEach(30), nil), 0, api.ErrMany},
		// the order of errors
		{up(30), 7, append(oneEach(30), list(99)), 0, api.ErrMany},
		{rowH(), 2, lists(list(2, 4), list(9)), 0, api.ErrRange}, // the first one breaks the rule
		{rowH(), 2, lists(list(0), list(0), list(7, 6)), 0, api.ErrRange},
		{rowH(), 2, lists(list(0), list(0), list(7, 8)), 0, api.ErrRule},
	} {
		if got, e := gap.CheckRuns(x.row, x.many, x.runs); got != x.want || e != x.e {
			t.Errorf("%d: CheckRuns(%v, %d, %v) = %d, %d, want %d, %d", i, x.row, x.many, x.runs, got, e, x.want, x.e)
		}
	}
}
