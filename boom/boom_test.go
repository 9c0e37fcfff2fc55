package boom_test

import (
	"math"
	"slices"
	"strings"
	"testing"

	"peavey/api"
	"peavey/boom"
)

func list(x ...int) []int                          { return x }
func ways(x ...api.BoomWay) []api.BoomWay          { return x }
func way(out int, cells ...int) api.BoomWay        { return api.BoomWay{Cells: cells, Out: out} }
func chain(x, y int, s string) api.BoomChain       { return api.BoomChain{X: x, Y: y, Sticks: s} }
func from00(sticks ...string) api.BoomChain        { return chain(0, 0, strings.Join(sticks, "")) }
func times(many int, sticks string) string         { return strings.Repeat(sticks, many) }
func copies(many int, w api.BoomWay) []api.BoomWay { return slices.Repeat(ways(w), many) }

func pond(wide, high int, want, keep []int) api.BoomPond {
	return api.BoomPond{Wide: wide, High: high, Want: want, Keep: keep}
}

// noEdge is the Out of a way that ends in a cell that is kept out.
const noEdge = -1

// pondP and pondR are the ponds P and R of the chapter, chainC the chain C, and chainD the same one the other way round.
func pondP() api.BoomPond   { return pond(4, 3, list(5), list(6)) }
func pondR() api.BoomPond   { return pond(4, 3, list(5, 7), nil) }
func chainC() api.BoomChain { return chain(1, 1, "EENNWSWS") }
func chainD() api.BoomChain { return chain(1, 1, "NENESSWW") }

// indexes is 0 1 2 .. of so many.
func indexes(many int) []int {
	var l []int
	for i := range many {
		l = append(l, i)
	}
	return l
}

// board is every other cell of a pond of 8 by 8, as on a chess board: those whose column and row together are even, or odd.
func board(odd int) []int {
	var l []int
	for cell := range 64 {
		if (cell%8+cell/8)%2 == odd {
			l = append(l, cell)
		}
	}
	return l
}

// snake is all cells of a pond of 8 by 8, row by row there and back; the last one is 56.
func snake() []int {
	var l []int
	for y := range 8 {
		for x := range 8 {
			if y%2 == 1 {
				x = 7 - x
			}
			l = append(l, y*8+x)
		}
	}
	return l
}

// longest is a chain of 80 sticks: all corners but 1, 1.
func longest() api.BoomChain {
	return from00(times(8, "E"), times(8, "N"), times(3, "W"+times(7, "S")+"W"+times(7, "N")), "W", times(3, "WSES"), "WSS")
}

// square is the chain round the widest and highest pond.
func square() api.BoomChain {
	return from00(times(8, "E"), times(8, "N"), times(8, "W"), times(8, "S"))
}

func TestCheckPond(t *testing.T) { // P4.1
	for i, x := range []struct {
		p api.BoomPond
		e api.Errno
	}{
		{pondP(), api.OK},
		{pondR(), api.OK},
		{pond(1, 1, nil, nil), api.OK},
		{pond(1, 1, list(0), nil), api.OK},
		{pond(1, 1, nil, list(0)), api.OK},
		{pond(8, 1, list(7), list(0)), api.OK},
		{pond(1, 8, list(0), list(7)), api.OK},
		{pond(8, 8, indexes(64), nil), api.OK},
		{pond(8, 8, nil, indexes(64)), api.OK},
		{pond(8, 8, board(0), board(1)), api.OK},
		{pond(0, 4, nil, nil), api.ErrRange},
		{pond(9, 4, nil, nil), api.ErrRange},
		{pond(4, 0, nil, nil), api.ErrRange},
		{pond(4, 9, nil, nil), api.ErrRange},
		{pond(-1, 4, nil, nil), api.ErrRange},
		{pond(4, math.MinInt, nil, nil), api.ErrRange},
		{pond(math.MaxInt, math.MaxInt, nil, nil), api.ErrRange},
		{pond(1, 1, list(1), nil), api.ErrArg},
		{pond(1, 1, nil, list(1)), api.ErrArg},
		{pond(4, 3, list(3, 12), nil), api.ErrArg},
		{pond(4, 3, nil, list(3, 12)), api.ErrArg},
		{pond(4, 3, list(-1, 3), nil), api.ErrArg},
		{pond(4, 3, nil, list(-1, 3)), api.ErrArg},
		{pond(8, 8, list(64), nil), api.ErrArg},
		{pond(4, 3, list(math.MinInt), nil), api.ErrArg},
		{pond(4, 3, list(math.MaxInt), nil), api.ErrArg},
		{pond(4, 3, list(3, 3), nil), api.ErrArg},
		{pond(4, 3, nil, list(3, 3)), api.ErrArg},
		{pond(4, 3, list(1, 3, 2), nil), api.ErrArg},
		{pond(4, 3, nil, list(3, 2, 4)), api.ErrArg},
		{pond(4, 3, make([]int, 100), nil), api.ErrArg},
		{pond(1, 1, list(0), list(0)), api.ErrHave},
		{pond(4, 3, list(1, 2, 9), list(0, 3, 9)), api.ErrHave},
		{pond(4, 3, list(11), list(3, 11)), api.ErrHave},
		// the order of errors
		{pond(9, 4, list(3, 3), list(3, 3)), api.ErrRange},
		{pond(4, 0, list(0), list(0)), api.ErrRange},
		{pond(4, 3, list(3), list(3, 12)), api.ErrArg},
		{pond(4, 3, list(2, 1), list(1)), api.ErrArg},
	} {
		if e := boom.CheckPond(x.p); e != x.e {
			t.Errorf("%d: CheckPond(%v) = %d, want %d", i, x.p, e, x.e)
		}
	}
}

// Every function with a pond returns the error of CheckPond first, with zero values, whatever else is wrong.
func TestErrorOfPondFirst(t *testing.T) {
	for _, p := range []api.BoomPond{pond(0, 1, nil, nil), pond(9, 9, nil, nil), pond(4, 3, list(12), nil), pond(4, 3, list(2), list(2, 1)), pond(4, 3, list(1), list(1))} {
		want := boom.CheckPond(p)
		if want == api.OK {
			t.Errorf("CheckPond(%v) = OK", p)
		}
		check := func(name string, e api.Errno, zero bool) {
			if e != want || !zero {
				t.Errorf("%s of %v: error %d, want %d; all zero: %v", name, p, e, want, zero)
			}
		}
		for _, water := range [][]int{nil, list(0), list(-1), list(2, 1)} {
			sticks, e := boom.Sticks(p, water)
			check("Sticks", e, sticks == 0)
		}
		fewest, e := boom.Fewest(p)
		check("Fewest", e, fewest == 0)
		small, e := boom.Small(p)
		check("Small", e, len(small) == 0)
		large, e := boom.Large(p)
		check("Large", e, len(large) == 0)
		for _, cell := range list(-1, 0, 64) {
			kind, e := boom.Kind(p, cell)
			check("Kind", e, kind == 0)
		}
		for _, l := range [][]api.BoomWay{nil, ways(way(9)), ways(way(9, 99)), make([]api.BoomWay, 257)} {
			many, e := boom.CheckWays(p, l)
			check("CheckWays", e, many == 0)
		}
		proof, e := boom.Ways(p)
		check("Ways", e, len(proof) == 0)
	}
}

func TestSticks(t *testing.T) { // P4.1
	for i, x := range []struct {
		p     api.BoomPond
		water []int
		want  int
		e     api.Errno
	}{
		{pondP(), list(5), 4, api.OK}, // the examples of the chapter
		{pondP(), list(4, 5), 6, api.OK},
		{pondP(), list(5, 6), 0, api.ErrBoom},
		{pondP(), list(4), 0, api.ErrBoom},
		{pond(1, 1, nil, nil), nil, 0, api.OK},
		{pond(1, 1, nil, list(0)), nil, 0, api.OK},
		{pond(1, 1, nil, nil), list(0), 4, api.OK},
		{pond(1, 1, list(0), nil), list(0), 4, api.OK},
		{pond(8, 1, nil, nil), indexes(8), 18, api.OK},
		{pond(1, 8, nil, nil), indexes(8), 18, api.OK},
		{pond(8, 8, nil, nil), indexes(64), 32, api.OK},
		{pond(8, 8, board(0), board(1)), board(0), 128, api.OK},
		{pond(3, 3, nil, nil), list(0, 1, 2, 3, 5, 6, 7, 8), 16, api.OK}, // a hole
		{pond(3, 3, nil, nil), list(2, 3), 8, api.OK},                    // the end of a row and the begin of the next one are no neighbours
		{pond(4, 2, nil, nil), list(1, 2, 5, 6), 8, api.OK},
		{pond(2, 4, nil, nil), list(2, 3, 4, 5), 8, api.OK},
		{pondP(), nil, 0, api.ErrBoom},
		{pondP(), list(0, 1, 2, 3, 4, 7, 8), 0, api.ErrBoom},
		{pondP(), indexes(12), 0, api.ErrBoom},
		{pondR(), list(5), 0, api.ErrBoom},
		{pondR(), list(5, 6), 0, api.ErrBoom},
		{pond(1, 1, list(0), nil), nil, 0, api.ErrBoom},
		{pond(1, 1, nil, list(0)), list(0), 0, api.ErrBoom},
		{pondP(), list(5, 5), 0, api.ErrArg},
		{pondP(), list(5, 4), 0, api.ErrArg},
		{pondP(), list(5, 12), 0, api.ErrArg},
		{pondP(), list(-1, 5), 0, api.ErrArg},
		{pondP(), list(5, math.MaxInt), 0, api.ErrArg},
		{pondP(), list(math.MinInt, 5), 0, api.ErrArg},
		// the order of errors
		{pondP(), list(6, 12), 0, api.ErrArg},
		{pondP(), list(6, 6), 0, api.ErrArg},
	} {
		if got, e := boom.Sticks(x.p, x.water); got != x.want || e != x.e {
			t.Errorf("%d: Sticks(%v, %v) = %d, %d, want %d, %d", i, x.p, x.water, got, e, x.want, x.e)
		}
	}
}

// known is a pond with its fewest sticks, and its smallest and largest best water.
type known struct {
	p            api.BoomPond
	fewest       int
	small, large []int
}

func ponds() []known {
	return []known{
		// the examples of the chapter
		{pondP(), 4, list(5), list(5)},
		{pondR(), 8, list(5, 7), list(5, 6, 7)},
		// one cell
		{pond(1, 1, nil, nil), 0, nil, nil},
		{pond(1, 1, list(0), nil), 4, list(0), list(0)},
		{pond(1, 1, nil, list(0)), 0, nil, nil},
		// one row, one column
		{pond(8, 1, list(0, 7), nil), 8, list(0, 7), list(0, 7)},
		{pond(8, 1, list(2, 4), nil), 8, list(2, 4), list(2, 3, 4)},
		{pond(8, 1, list(2, 4), list(3)), 8, list(2, 4), list(2, 4)},
		{pond(1, 8, list(3, 5), nil), 8, list(3, 5), list(3, 4, 5)},
		{pond(1, 8, indexes(8), nil), 18, indexes(8), indexes(8)},
		// nothing is wanted
		{pond(8, 8, nil, nil), 0, nil, nil},
		{pond(4, 3, nil, list(0, 11)), 0, nil, nil},
		{pond(8, 8, nil, indexes(64)), 0, nil, nil},
		// nothing is kept out
		{pond(8, 8, list(0, 7, 56, 63), nil), 16, list(0, 7, 56, 63), list(0, 7, 56, 63)},
		{pond(8, 8, indexes(64), nil), 32, indexes(64), indexes(64)},
		{pond(2, 2, list(0, 3), nil), 8, list(0, 3), indexes(4)},
		{pond(3, 3, list(1, 3, 5, 7), nil), 12, list(1, 3, 4, 5, 7), indexes(9)},
		{pond(4, 4, list(0, 1, 2, 3, 4, 7, 8, 11, 12, 13, 14, 15), nil), 16, indexes(16), indexes(16)}, // a hole that is filled
		// each cell is in one of them
		{pond(8, 8, board(0), board(1)), 128, board(0), board(0)},
		{pond(8, 8, board(1), board(0)), 128, board(1), board(1)},
		{pond(2, 2, list(0, 3), list(1, 2)), 8, list(0, 3), list(0, 3)},
		// cells that are not wanted in all best water, in some, in none
		{pond(3, 3, list(1, 3, 5, 7), list(4)), 16, list(1, 3, 5, 7), list(0, 1, 2, 3, 5, 6, 7, 8)},
		{pond(3, 3, list(0, 1, 2, 3, 5, 6, 7, 8), list(4)), 16, list(0, 1, 2, 3, 5, 6, 7, 8), list(0, 1, 2, 3, 5, 6, 7, 8)},
		{pond(3, 2, list(0, 2, 4), nil), 10, list(0, 1, 2, 4), indexes(6)},
		// the shortest ways from these cells leave no room for as many as there can be
		{pond(4, 3, list(0, 3, 9, 11), list(7)), 16, list(0, 3, 9, 11), list(0, 1, 2, 3, 4, 5, 6, 8, 9, 10, 11)},
		{pond(4, 3, list(0, 3, 9, 11), list(7, 8)), 16, list(0, 3, 9, 11), list(0, 1, 2, 3, 4, 5, 6, 9, 10, 11)},
		{pond(3, 4, list(2, 3, 9, 11), list(6)), 16, list(2, 3, 9, 11), list(0, 1, 2, 3, 4, 5, 7, 8, 9, 10, 11)},
		{pond(3, 5, list(1, 10, 14), nil), 12, list(1, 10, 14), list(1, 10, 11, 13, 14)},
		{pond(3, 5, list(0, 2, 10, 13, 14), nil), 16, list(0, 2, 10, 13, 14), indexes(15)},
	}
}

func TestFewestSmallLarge(t *testing.T) { // P4.2
	for i, x := range ponds() {
		fewest, e := boom.Fewest(x.p)
		if fewest != x.fewest || e != api.OK {
			t.Errorf("%d: Fewest(%v) = %d, %d, want %d", i, x.p, fewest, e, x.fewest)
		}
		small, e := boom.Small(x.p)
		if !slices.Equal(small, x.small) || e != api.OK {
			t.Errorf("%d: Small(%v) = %v, %d, want %v", i, x.p, small, e, x.small)
		}
		large, e := boom.Large(x.p)
		if !slices.Equal(large, x.large) || e != api.OK {
			t.Errorf("%d: Large(%v) = %v, %d, want %v", i, x.p, large, e, x.large)
		}
	}
}

func TestKind(t *testing.T) { // P4.3
	for i, x := range ponds() {
		cells := x.p.Wide * x.p.High
		for cell := range cells {
			want := api.BoomNever
			switch {
			case slices.Contains(x.small, cell):
				want = api.BoomAlways
			case slices.Contains(x.large, cell):
				want = api.BoomMay
			}
			if kind, e := boom.Kind(x.p, cell); kind != want || e != api.OK {
				t.Errorf("%d: Kind(%v, %d) = %d, %d, want %d", i, x.p, cell, kind, e, want)
			}
		}
		for _, cell := range list(-1, cells, cells+1, 64, math.MinInt, math.MaxInt) {
			if kind, e := boom.Kind(x.p, cell); kind != 0 || e != api.ErrArg {
				t.Errorf("%d: Kind(%v, %d) = %d, %d, want ErrArg", i, x.p, cell, kind, e)
			}
		}
	}
}

func TestCheckWays(t *testing.T) { // P4.4
	one, full := pond(1, 1, list(0), nil), pond(8, 8, list(0), list(56))
	row, column := pond(8, 1, list(3), list(5)), pond(1, 8, list(3), list(5))
	long := way(noEdge, snake()...)
	for i, x := range []struct {
		p    api.BoomPond
		ways []api.BoomWay
		want int
		e    api.Errno
	}{
		// the examples of the chapter
		{pondP(), ways(way(noEdge, 5, 6)), 1, api.OK},
		{pondP(), ways(way(2, 5, 4)), 1, api.OK},
		{pondP(), ways(way(noEdge, 5, 6), way(2, 5, 4)), 2, api.OK},
		{pondP(), ways(way(noEdge, 5, 6), way(noEdge, 5, 6)), 0, api.ErrHave},
		{pondP(), ways(way(1, 5, 9)), 1, api.OK},
		{pondP(), ways(way(0, 5, 9)), 0, api.ErrRule},
		// none
		{pondP(), nil, 0, api.OK},
		{one, nil, 0, api.OK},
		// ways of one cell, over all sides of it
		{one, ways(way(0, 0)), 1, api.OK},
		{one, ways(way(3, 0), way(1, 0), way(2, 0), way(0, 0)), 4, api.OK},
		{one, ways(way(0, 0), way(1, 0), way(2, 0), way(0, 0)), 0, api.ErrHave},
		{one, copies(256, way(0, 0)), 0, api.ErrHave},
		{one, ways(way(noEdge, 0)), 0, api.ErrRule},
		{row, ways(way(1, 3), way(3, 3)), 2, api.OK},
		{row, ways(way(0, 3)), 0, api.ErrRule},
		{row, ways(way(2, 3)), 0, api.ErrRule},
		{column, ways(way(0, 3), way(2, 3)), 2, api.OK},
		{column, ways(way(1, 3)), 0, api.ErrRule},
		{column, ways(way(3, 3)), 0, api.ErrRule},
		// ways of 64 cells
		{full, ways(long), 1, api.OK},
		{full, ways(way(2, long.Cells...)), 1, api.OK},
		{full, ways(way(1, long.Cells...)), 1, api.OK},
		{full, ways(way(3, long.Cells...)), 0, api.ErrRule},
		{full, ways(way(0, long.Cells...)), 0, api.ErrRule},
		{full, ways(long, way(2, 0), way(3, 0)), 3, api.OK},
		{full, ways(long, way(noEdge, 0, 8, 16, 24, 32, 40, 48, 56)), 0, api.ErrHave},
		// each edge
		{pondP(), ways(way(0, 5, 9, 10, 11)), 1, api.OK},
		{pondP(), ways(way(3, 5, 1)), 1, api.OK},
		{pondP(), ways(way(2, 5, 1)), 0, api.ErrRule},
		{pondP(), ways(way(3, 5, 4)), 0, api.ErrRule},
		{pondP(), ways(way(1, 5, 4)), 0, api.ErrRule},
		{pondP(), ways(way(0, 5, 4)), 0, api.ErrRule},
		// over what is wanted and what is kept out, and over a cell twice
		{pondR(), ways(way(0, 5, 6, 7)), 1, api.OK},
		{pondP(), ways(way(noEdge, 5, 6, 10, 9, 5, 1, 2, 6)), 1, api.OK},
		{pondP(), ways(way(0, 5, 6, 7)), 1, api.OK},
		{pondP(), ways(way(noEdge, 5, 9, 10, 6), way(noEdge, 5, 1, 2, 6), way(0, 5, 6, 7)), 3, api.OK},
		// both sides at the edge of a corner
		{pond(2, 2, list(3), nil), ways(way(0, 3), way(1, 3), way(2, 3, 2), way(3, 3, 1)), 4, api.OK},
		// no ways: beginning outside, jumping, staying, ending elsewhere
		{pondP(), ways(way(1, 9)), 0, api.ErrRule},
		{pondP(), ways(way(noEdge, 6)), 0, api.ErrRule},
		{pondP(), ways(way(noEdge, 6, 5)), 0, api.ErrRule},
		{pondP(), ways(way(noEdge, 5, 10, 6)), 0, api.ErrRule},
		{pondP(), ways(way(noEdge, 5, 5, 6)), 0, api.ErrRule},
		{pondP(), ways(way(0, 5, 7)), 0, api.ErrRule},
		{pondP(), ways(way(0, 5, 4, 3)), 0, api.ErrRule}, // the end of a row and the begin of the next one are no neighbours
		{pondP(), ways(way(2, 5, 6, 7, 8)), 0, api.ErrRule},
		{pondP(), ways(way(noEdge, 5)), 0, api.ErrRule},
		{pondP(), ways(way(noEdge, 5, 6, 7)), 0, api.ErrRule},
		{pondP(), ways(way(noEdge, 5, 4)), 0, api.ErrRule},
		{pondP(), ways(way(noEdge, 5, 6), way(2, 5, 4), way(0, 5)), 0, api.ErrRule},
		// a side twice: by one way, on the way back, at an edge, by two
		{pondP(), ways(way(noEdge, 5, 4, 5, 6)), 0, api.ErrHave},
		{pondP(), ways(way(1, 5, 6, 10, 6, 5, 9)), 0, api.ErrHave},
		{pondP(), ways(way(noEdge, 5, 6, 10, 9, 5, 6)), 0, api.ErrHave},
		{pondP(), ways(way(2, 5, 4), way(2, 5, 1, 0, 4)), 0, api.ErrHave},
		{pondP(), ways(way(2, 5, 1, 0), way(2, 5, 4, 0)), 0, api.ErrHave},
		{pondP(), ways(way(2, 5, 1, 0), way(3, 5, 4, 0)), 2, api.OK},
		{pondR(), ways(way(2, 5, 4), way(1, 5, 6, 10), way(3, 7, 6, 5, 1)), 0, api.ErrHave},
		{pondP(), ways(way(3, 5, 9, 10, 6, 2), way(1, 5, 6, 10)), 0, api.ErrHave},
		{pondP(), ways(way(noEdge, 5, 6), way(2, 5, 4), way(1, 5, 9), way(3, 5, 1), way(noEdge, 5, 6)), 0, api.ErrHave},
		// invalid cells and edges
		{pondP(), ways(way(4, 5, 4)), 0, api.ErrArg},
		{pondP(), ways(way(-2, 5, 6)), 0, api.ErrArg},
		{pondP(), ways(way(math.MinInt, 5, 6)), 0, api.ErrArg},
		{pondP(), ways(way(math.MaxInt, 5, 6)), 0, api.ErrArg},
		{pondP(), ways(way(noEdge, 5, 12)), 0, api.ErrArg},
		{pondP(), ways(way(noEdge, -1, 6)), 0, api.ErrArg},
		{pondP(), ways(way(noEdge, math.MinInt)), 0, api.ErrArg},
		{pondP(), ways(way(noEdge, 5, math.MaxInt, 6)), 0, api.ErrArg},
		// too many
		{pondP(), copies(257, way(noEdge, 5, 6)), 0, api.ErrMany},
		{pondP(), copies(256, way(noEdge, 5, 6)), 0, api.ErrHave},
		{pondP(), ways(way(noEdge)), 0, api.ErrMany},
		{pondP(), ways(way(noEdge, 5, 6), way(2)), 0, api.ErrMany},
		{full, ways(way(noEdge, append(list(0), snake()...)...)), 0, api.ErrMany},
		{full, ways(way(noEdge, append(snake()[1:], 56)...)), 0, api.ErrRule},
		// the order of errors: all ways for the first error
		{pondP(), ways(way(9, 99), way(2)), 0, api.ErrMany},
		{pondP(), ways(way(1, 9), way(noEdge, 5, 6), way(noEdge, 5, 6), way(4, 5)), 0, api.ErrArg},
		{pondP(), ways(way(1, 9), way(noEdge, 5, 12)), 0, api.ErrArg},
		{pondP(), ways(way(noEdge, 5, 6), way(noEdge, 5, 6), way(noEdge, 5)), 0, api.ErrRule},
	} {
		if got, e := boom.CheckWays(x.p, x.ways); got != x.want || e != x.e {
			t.Errorf("%d: CheckWays(%v, %v) = %d, %d, want %d, %d", i, x.p, x.ways, got, e, x.want, x.e)
		}
	}
}

func TestWays(t *testing.T) { // P4.4
	for i, x := range ponds() {
		proof, e := boom.Ways(x.p)
		if many, f := boom.CheckWays(x.p, proof); e != api.OK || f != api.OK || many != x.fewest {
			t.Errorf("%d: Ways(%v) = %v, %d: CheckWays says %d, %d, want %d", i, x.p, proof, e, many, f, x.fewest)
		}
	}
}

// round is a chain with its cells, and on which side they are.
type round struct {
	c     api.BoomChain
	cells []int
	left  bool
}

func chains() []round {
	var comb []int // the cells that the longest chain goes round
	for cell := range 64 {
		x, y := cell%8, cell/8
		if y == 0 || x%2 == 1 || x == 0 && y%2 == 1 {
			comb = append(comb, cell)
		}
	}
	return []round{
		// the example of the chapter, to the left and to the right
		{chainC(), list(9, 10, 18), true},
		{chainD(), list(9, 10, 18), false},
		// one cell, from each corner of it, in each corner
		{chain(3, 2, "ENWS"), list(19), true},
		{chain(4, 2, "NWSE"), list(19), true},
		{chain(4, 3, "WSEN"), list(19), true},
		{chain(3, 3, "SENW"), list(19), true},
		{chain(3, 2, "NESW"), list(19), false},
		{chain(4, 3, "SWNE"), list(19), false},
		{chain(0, 0, "NESW"), list(0), false},
		{chain(8, 0, "NWSE"), list(7), true},
		{chain(0, 8, "ESWN"), list(56), false},
		{chain(8, 8, "WSEN"), list(63), true},
		// the most cells, and the most sticks
		{square(), indexes(64), true},
		{longest(), comb, true},
		// bays, on each side
		{chain(0, 0, "EEENWWNEENWWWSSS"), list(0, 1, 2, 8, 16, 17, 18), true},
		{chain(0, 0, "EEENNNWSSWNNWSSS"), list(0, 1, 2, 8, 10, 16, 18), true},
		{chain(0, 0, "NEENWWNEEESSSWWW"), list(0, 1, 2, 10, 16, 17, 18), false},
		{chain(0, 0, "NNNESSENNESSSWWW"), list(0, 1, 2, 8, 10, 16, 18), false},
	}
}

func TestEnclosedAndArea(t *testing.T) { // P4.6
	for i, x := range chains() {
		if e := boom.CheckChain(x.c); e != api.OK {
			t.Errorf("%d: CheckChain(%v) = %d", i, x.c, e)
		}
		cells, e := boom.Enclosed(x.c)
		if !slices.Equal(cells, x.cells) || e != api.OK {
			t.Errorf("%d: Enclosed(%v) = %v, %d, want %v", i, x.c, cells, e, x.cells)
		}
		area, left, e := boom.Area(x.c)
		if area != len(x.cells) || left != x.left || e != api.OK {
			t.Errorf("%d: Area(%v) = %d, %v, %d, want %d, %v", i, x.c, area, left, e, len(x.cells), x.left)
		}
	}
}

func TestCheckChain(t *testing.T) { // P4.5
	for i, x := range []struct {
		c api.BoomChain
		e api.Errno
	}{
		// the examples of the chapter
		{from00("ENWS"), api.OK},
		{from00("ENW"), api.ErrMany},
		{from00("EENW"), api.ErrBoom},
		{from00("EEWW"), api.ErrBoom},
		{from00("ENWX"), api.ErrForm},
		{chainC(), api.OK},
		{longest(), api.OK},
		{square(), api.OK},
		{chain(8, 8, "WSEN"), api.OK},
		// too short, too long
		{from00(), api.ErrMany},
		{from00("E"), api.ErrMany},
		{from00(times(81, "E")), api.ErrMany},
		{from00(times(10000, "ENWS")), api.ErrMany},
		{from00(times(20, "ENWS")), api.ErrBoom}, // 80
		// other letters, in each place
		{from00("XNWS"), api.ErrForm},
		{from00("EXWS"), api.ErrForm},
		{from00("ENWs"), api.ErrForm},
		{from00("eNWS"), api.ErrForm},
		{from00("EN S"), api.ErrForm},
		{from00("ENWS\x00"), api.ErrForm},
		{from00("ENWS\xff"), api.ErrForm},
		{from00("EN\u0145S"), api.ErrForm}, // its number ends as that of E
		{from00(times(79, "E"), "D"), api.ErrForm},
		// over each edge
		{chain(-1, 0, "ENWS"), api.ErrRange},
		{chain(0, -1, "NESW"), api.ErrRange},
		{chain(9, 8, "WSEN"), api.ErrRange},
		{chain(8, 9, "SWNE"), api.ErrRange},
		{chain(0, 0, "WNES"), api.ErrRange},
		{chain(0, 0, "SENW"), api.ErrRange},
		{chain(8, 0, "ENWS"), api.ErrRange},
		{chain(0, 8, "NESW"), api.ErrRange},
		{chain(8, 8, "NWSE"), api.ErrRange},
		{from00(times(9, "E"), "N", times(9, "W"), "S"), api.ErrRange},
		{from00("E", times(9, "N"), "W", times(9, "S")), api.ErrRange},
		{from00("ENWSS"), api.ErrRange}, // the last corner
		{chain(math.MaxInt, math.MinInt, "ENWS"), api.ErrRange},
		{chain(math.MinInt, 0, "WNES"), api.ErrRange},
		{chain(0, math.MaxInt, "NESW"), api.ErrRange},
		// not closed, a corner twice
		{from00("ENWN"), api.ErrBoom},
		{from00("EEEE"), api.ErrBoom},
		{from00("ENES"), api.ErrBoom},
		{from00(times(8, "E"), times(8, "N"), times(8, "W"), times(7, "S")), api.ErrBoom},
		{from00("EWEW"), api.ErrBoom},
		{from00("ENWSENWS"), api.ErrBoom}, // round twice
		{from00("ENWSE"), api.ErrBoom},    // over the first corner again
		{chain(1, 1, "ENWSWSEN"), api.ErrBoom},
		{from00("EENNWSWNEEE"), api.ErrBoom},
		{from00("ENNSWS"), api.ErrBoom},            // there and back
		{from00("ENENWSWS"), api.ErrBoom},          // a corner twice, but no side
		{chain(1, 1, "EENNWWSSSWNE"), api.ErrBoom}, // the first corner, before the end
		{chain(1, 0, "NENWSWSE"), api.ErrBoom},     // a knot
		// the order of errors
		{chain(9, 9, "ENX"), api.ErrMany},
		{from00(times(81, "X")), api.ErrMany},
		{chain(9, 9, "ENWX"), api.ErrForm},
		{from00("SENX"), api.ErrForm},
		{from00("EWWW"), api.ErrRange},
		{from00("ENWSENWSS"), api.ErrRange},
	} {
		if e := boom.CheckChain(x.c); e != x.e {
			t.Errorf("%d: CheckChain(%v) = %d, want %d", i, x.c, e, x.e)
		}
		// The other functions with a chain return the same, with zero values.
		cells, e := boom.Enclosed(x.c)
		if e != x.e || e != api.OK && len(cells) > 0 {
			t.Errorf("%d: Enclosed(%v) = %v, %d, want %d", i, x.c, cells, e, x.e)
		}
		area, left, e := boom.Area(x.c)
		if e != x.e || e != api.OK && (area != 0 || left) {
			t.Errorf("%d: Area(%v) = %d, %v, %d, want %d", i, x.c, area, left, e, x.e)
		}
	}
}

func TestMost(t *testing.T) { // P4.7
	type answer struct {
		cells, wide, high int
		e                 api.Errno
	}
	for i, x := range []struct {
		sticks, wide, high int
		want               answer
	}{
		{8, 8, 8, answer{4, 2, 2, api.OK}}, // the examples of the chapter
		{9, 8, 8, answer{4, 2, 2, api.OK}},
		{10, 8, 8, answer{6, 2, 3, api.OK}},
		{12, 2, 8, answer{8, 2, 4, api.OK}},
		{4, 8, 8, answer{1, 1, 1, api.OK}},
		{5, 8, 8, answer{1, 1, 1, api.OK}},
		{6, 8, 8, answer{2, 1, 2, api.OK}},
		{6, 8, 1, answer{2, 2, 1, api.OK}},
		{4, 1, 1, answer{1, 1, 1, api.OK}},
		{80, 1, 1, answer{1, 1, 1, api.OK}},
		{30, 8, 8, answer{56, 7, 8, api.OK}},
		{31, 8, 8, answer{56, 7, 8, api.OK}},
		{32, 8, 8, answer{64, 8, 8, api.OK}},
		{33, 8, 8, answer{64, 8, 8, api.OK}},
		{math.MaxInt, 8, 8, answer{64, 8, 8, api.OK}},
		{math.MaxInt, 8, 3, answer{24, 8, 3, api.OK}},
		{math.MaxInt, 3, 8, answer{24, 3, 8, api.OK}},
		{14, 3, 8, answer{12, 3, 4, api.OK}},
		{14, 8, 3, answer{12, 4, 3, api.OK}},
		{12, 8, 1, answer{5, 5, 1, api.OK}},
		{3, 8, 8, answer{e: api.ErrNone}},
		{0, 8, 8, answer{e: api.ErrNone}},
		{-1, 8, 8, answer{e: api.ErrNone}},
		{-8, 1, 1, answer{e: api.ErrNone}},
		{math.MinInt, 8, 8, answer{e: api.ErrNone}},
		{8, 0, 8, answer{e: api.ErrRange}},
		{8, 8, 0, answer{e: api.ErrRange}},
		{8, 9, 8, answer{e: api.ErrRange}},
		{8, 8, 9, answer{e: api.ErrRange}},
		{8, -1, 8, answer{e: api.ErrRange}},
		{8, math.MaxInt, math.MaxInt, answer{e: api.ErrRange}},
		{8, math.MinInt, 8, answer{e: api.ErrRange}},
		// the order of errors
		{3, 0, 8, answer{e: api.ErrRange}},
		{math.MinInt, 8, 9, answer{e: api.ErrRange}},
	} {
		var got answer
		got.cells, got.wide, got.high, got.e = boom.Most(x.sticks, x.wide, x.high)
		if got != x.want {
			t.Errorf("%d: Most(%d, %d, %d) = %v, want %v", i, x.sticks, x.wide, x.high, got, x.want)
		}
	}
}
