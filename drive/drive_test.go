package drive_test

import (
	"math"
	"slices"
	"testing"

	"peavey/api"
	"peavey/drive"
)

func list(x ...int64) []int64      { return x }
func lists(x ...[]int64) [][]int64 { return x }

func reach(down int, pass, takes, lo, hi, every, logs, ready int64) api.DriveReach {
	return api.DriveReach{Down: down, Pass: pass, Takes: takes, Water: api.Range{Lo: lo, Hi: hi}, Every: every, Logs: logs, Ready: ready}
}

func river(days int64, reaches ...api.DriveReach) api.DriveRiver {
	return api.DriveRiver{Days: days, Reaches: reaches}
}

// riverV and riverW are the rivers V and W of the chapter.
func riverV() api.DriveRiver {
	return river(10, reach(2, 3, 1, 1, 6, 1, 10, 1), reach(2, 5, 2, 1, 10, 2, 8, 2), reach(-1, 4, 1, 2, 9, 1, 2, 1))
}

func riverW() api.DriveRiver {
	r := riverV()
	r.Reaches[2].Water.Hi = 4
	return r
}

// changed returns the river V with other numbers of a reach.
func changed(i int, change func(*api.DriveReach)) api.DriveRiver {
	r := riverV()
	change(&r.Reaches[i])
	return r
}

// nothing is so many numbers 0.
func nothing(many int) []int64 { return make([]int64, many) }

// on is the list of so many days on which logs enter on one day alone.
func on(days, day, logs int64) []int64 {
	l := make([]int64, days)
	l[day-1] = logs
	return l
}

// then joins lists.
func then(parts ...[]int64) []int64 { return slices.Concat(parts...) }

// again is a number so many times.
func again(many int, n int64) []int64 { return slices.Repeat(list(n), many) }

// fan is seven reaches that run into the eighth one, each a day longer than the one before it.
func fan() api.DriveRiver {
	r := river(10)
	for takes := range int64(7) {
		r.Reaches = append(r.Reaches, reach(7, 1, takes, 1, 10, 1, 1, 1))
	}
	r.Reaches = append(r.Reaches, reach(-1, 2, 0, 1, 10, 1, 3, 1))
	return r
}

// stair is eight reaches one below another, with a log on the first bank.
func stair(takes int64) api.DriveRiver {
	r := river(40)
	for down := 1; down <= 8; down++ {
		r.Reaches = append(r.Reaches, reach(down, 1, takes, 1, 40, 1, 0, 1))
	}
	r.Reaches[0].Logs, r.Reaches[7].Down = 1, -1
	return r
}

// known is a river with its early plan, how many logs this brings by each day, and leaves above each reach.
type known struct {
	r    api.DriveRiver
	plan [][]int64
	most []int64
	left []int64
}

func rivers() []known {
	return []known{
		// the examples of the chapter
		{riverV(), lists(list(3, 3, 3, 1, 0, 0, 0, 0, 0, 0), list(0, 0, 5, 0, 3, 0, 0, 0, 0, 0), list(0, 4, 4, 3, 4, 2, 3, 0, 0, 0)), list(0, 0, 4, 8, 11, 15, 17, 20, 20, 20), list(0, 0, 0)},
		{riverW(), lists(list(3, 3, 3, 1, 0, 0, 0, 0, 0, 0), list(0, 0, 5, 0, 3, 0, 0, 0, 0, 0), list(0, 4, 4, 3, 0, 0, 0, 0, 0, 0)), list(0, 0, 4, 8, 11, 11, 11, 11, 11, 11), list(0, 0, 9)},
		// one day
		{river(1, reach(-1, 3, 0, 1, 1, 1, 5, 1)), lists(list(3)), list(3), list(2)},
		{river(1, reach(-1, 3, 1, 1, 1, 1, 5, 1)), lists(list(3)), list(0), list(2)},
		{river(1, reach(-1, 5, 0, 1, 1, 10, 3, 1)), lists(list(3)), list(3), list(0)},
		{river(1, reach(1, 4, 0, 1, 1, 1, 5, 1), reach(2, 9, 0, 1, 1, 1, 2, 1), reach(-1, 5, 0, 1, 1, 1, 1, 1)), lists(list(4), list(6), list(5)), list(5), list(1, 0, 2)},
		{river(1, reach(1, 4, 1, 1, 1, 1, 5, 1), reach(-1, 9, 0, 1, 1, 1, 2, 1)), lists(list(4), list(2)), list(2), list(1, 0)},
		// 40 days, with a dam that is opened each tenth day, and ten days to the boom
		{river(40, reach(-1, 1000, 10, 1, 40, 10, 10000, 1)), lists(then(list(1000), nothing(9), list(1000), nothing(9), list(1000), nothing(9), list(1000), nothing(9))), then(nothing(10), again(10, 1000), again(10, 2000), again(10, 3000)), list(6000)},
		{river(40, reach(-1, 1000, 0, 10, 40, 10, 10000, 11)), lists(then(nothing(19), list(1000), nothing(9), list(1000), nothing(9), list(1000))), then(nothing(19), again(10, 1000), again(10, 2000), list(3000)), list(7000)},
		// eight reaches
		{fan(), lists(on(10, 1, 1), on(10, 1, 1), on(10, 1, 1), on(10, 1, 1), on(10, 1, 1), on(10, 1, 1), on(10, 1, 1), list(2, 2, 2, 1, 1, 1, 1, 0, 0, 0)), list(2, 4, 6, 7, 8, 9, 10, 10, 10, 10), nothing(8)},
		{stair(0), lists(on(40, 1, 1), on(40, 1, 1), on(40, 1, 1), on(40, 1, 1), on(40, 1, 1), on(40, 1, 1), on(40, 1, 1), on(40, 1, 1)), again(40, 1), nothing(8)},
		{stair(4), lists(on(40, 1, 1), on(40, 5, 1), on(40, 9, 1), on(40, 13, 1), on(40, 17, 1), on(40, 21, 1), on(40, 25, 1), on(40, 29, 1)), then(nothing(32), again(8, 1)), nothing(8)},
		{stair(5), lists(on(40, 1, 1), on(40, 6, 1), on(40, 11, 1), on(40, 16, 1), on(40, 21, 1), on(40, 26, 1), on(40, 31, 1), on(40, 36, 1)), nothing(40), nothing(8)},
		{stair(6), lists(on(40, 1, 1), on(40, 7, 1), on(40, 13, 1), on(40, 19, 1), on(40, 25, 1), on(40, 31, 1), on(40, 37, 1), nothing(40)), nothing(40), nothing(8)},
		// several reaches into the boom
		{river(3, reach(-1, 1, 0, 1, 3, 1, 5, 1), reach(-1, 2, 1, 1, 3, 1, 5, 1), reach(-1, 4, 2, 1, 3, 1, 5, 1)), lists(list(1, 1, 1), list(2, 2, 1), list(4, 1, 0)), list(1, 4, 11), list(2, 0, 0)},
		// nothing passes, no logs
		{river(3, reach(-1, 0, 0, 1, 3, 1, 5, 1)), lists(list(0, 0, 0)), list(0, 0, 0), list(5)},
		{river(3, reach(1, 2, 0, 1, 3, 1, 5, 1), reach(-1, 0, 0, 1, 3, 1, 1, 3)), lists(list(2, 2, 1), list(0, 0, 0)), list(0, 0, 0), list(0, 6)},
		{river(3, reach(-1, 5, 0, 1, 3, 1, 0, 1)), lists(list(0, 0, 0)), list(0, 0, 0), list(0)},
		// as many as there can be
		{river(11, reach(-1, 1000, 0, 1, 11, 1, 10000, 1)), lists(then(again(10, 1000), list(0))), list(1000, 2000, 3000, 4000, 5000, 6000, 7000, 8000, 9000, 10000, 10000), list(0)},
		// water of one day, on the first, on one between, on the last
		{river(4, reach(-1, 5, 1, 1, 1, 1, 9, 1)), lists(list(5, 0, 0, 0)), list(0, 5, 5, 5), list(4)},
		{river(4, reach(-1, 5, 1, 3, 3, 7, 9, 2)), lists(list(0, 0, 5, 0)), list(0, 0, 0, 5), list(4)},
		{river(4, reach(-1, 5, 0, 4, 4, 2, 9, 2)), lists(list(0, 0, 0, 5)), list(0, 0, 0, 5), list(4)},
		{river(4, reach(-1, 5, 0, 2, 2, 1, 9, 3)), lists(list(0, 0, 0, 0)), list(0, 0, 0, 0), list(9)},
		// each second and third day of the water, from its begin on
		{river(7, reach(-1, 2, 0, 2, 6, 2, 9, 1)), lists(list(0, 2, 0, 2, 0, 2, 0)), list(0, 2, 2, 4, 4, 6, 6), list(3)},
		{river(7, reach(-1, 2, 0, 2, 7, 3, 9, 1)), lists(list(0, 2, 0, 0, 2, 0, 0)), list(0, 2, 2, 2, 4, 4, 4), list(5)},
		// ready on the last day
		{river(3, reach(-1, 5, 0, 1, 3, 1, 4, 3)), lists(list(0, 0, 4)), list(0, 0, 4), list(0)},
		{river(3, reach(-1, 5, 1, 1, 3, 1, 4, 3)), lists(list(0, 0, 4)), list(0, 0, 0), list(0)},
		{river(3, reach(-1, 5, 0, 1, 2, 1, 4, 3)), lists(list(0, 0, 0)), list(0, 0, 0), list(4)},
		// the water falls before the logs from above have come
		{river(5, reach(1, 5, 2, 1, 5, 1, 5, 1), reach(-1, 5, 0, 1, 2, 1, 1, 1)), lists(list(5, 0, 0, 0, 0), list(1, 0, 0, 0, 0)), list(1, 1, 1, 1, 1), list(0, 5)},
		{river(5, reach(1, 5, 2, 1, 5, 1, 5, 1), reach(-1, 5, 0, 1, 3, 1, 1, 1)), lists(list(5, 0, 0, 0, 0), list(1, 0, 5, 0, 0)), list(1, 1, 6, 6, 6), list(0, 0)},
		// logs that are under way on the last day are left nowhere
		{river(3, reach(1, 1, 2, 1, 3, 1, 5, 1), reach(-1, 5, 3, 1, 3, 1, 0, 1)), lists(list(1, 1, 1), list(0, 0, 1)), list(0, 0, 0), list(2, 0)},
	}
}

func TestCheckRiver(t *testing.T) { // P5.1
	full := reach(-1, 1000, 10, 1, 40, 10, 10000, 40)
	one := reach(-1, 1, 1, 1, 5, 1, 1, 1)
	down := func(d int) func(*api.DriveReach) { return func(x *api.DriveReach) { x.Down = d } }
	pass := func(n int64) func(*api.DriveReach) { return func(x *api.DriveReach) { x.Pass = n } }
	takes := func(n int64) func(*api.DriveReach) { return func(x *api.DriveReach) { x.Takes = n } }
	water := func(lo, hi int64) func(*api.DriveReach) {
		return func(x *api.DriveReach) { x.Water = api.Range{Lo: lo, Hi: hi} }
	}
	every := func(n int64) func(*api.DriveReach) { return func(x *api.DriveReach) { x.Every = n } }
	logs := func(n int64) func(*api.DriveReach) { return func(x *api.DriveReach) { x.Logs = n } }
	ready := func(n int64) func(*api.DriveReach) { return func(x *api.DriveReach) { x.Ready = n } }
	for i, x := range []struct {
		r api.DriveRiver
		e api.Errno
	}{
		{riverV(), api.OK},
		{riverW(), api.OK},
		{fan(), api.OK},
		{stair(10), api.OK},
		{river(1, reach(-1, 0, 0, 1, 1, 1, 0, 1)), api.OK},
		{river(40, full), api.OK},
		{river(40, slices.Repeat([]api.DriveReach{full}, 8)...), api.OK},
		// the days
		{river(0, one), api.ErrRange},
		{river(-1, one), api.ErrRange},
		{river(41, full), api.ErrRange},
		{river(math.MinInt64, one), api.ErrRange},
		{river(math.MaxInt64, one), api.ErrRange},
		// how many reaches
		{river(5), api.ErrMany},
		{river(5, slices.Repeat([]api.DriveReach{one}, 8)...), api.OK},
		{river(5, slices.Repeat([]api.DriveReach{one}, 9)...), api.ErrMany},
		{river(5, make([]api.DriveReach, 1000)...), api.ErrMany},
		// the reach below
		{changed(0, down(-1)), api.OK},
		{changed(0, down(1)), api.OK},
		{changed(1, down(-1)), api.OK},
		{changed(0, down(-2)), api.ErrArg},
		{changed(0, down(0)), api.ErrArg},
		{changed(0, down(3)), api.ErrArg},
		{changed(1, down(0)), api.ErrArg},
		{changed(1, down(1)), api.ErrArg},
		{changed(1, down(3)), api.ErrArg},
		{changed(2, down(0)), api.ErrArg},
		{changed(2, down(1)), api.ErrArg},
		{changed(2, down(2)), api.ErrArg},
		{changed(2, down(3)), api.ErrArg},
		{changed(2, down(8)), api.ErrArg},
		{changed(0, down(math.MinInt)), api.ErrArg},
		{changed(0, down(math.MaxInt)), api.ErrArg},
		// the other numbers
		{changed(1, pass(0)), api.OK},
		{changed(1, pass(1000)), api.OK},
		{changed(1, pass(-1)), api.ErrRange},
		{changed(2, pass(1001)), api.ErrRange},
		{changed(1, pass(math.MinInt64)), api.ErrRange},
		{changed(1, pass(math.MaxInt64)), api.ErrRange},
		{changed(1, takes(0)), api.OK},
		{changed(1, takes(10)), api.OK},
		{changed(1, takes(-1)), api.ErrRange},
		{changed(0, takes(11)), api.ErrRange},
		{changed(1, takes(math.MinInt64)), api.ErrRange},
		{changed(1, takes(math.MaxInt64)), api.ErrRange},
		{changed(1, water(1, 1)), api.OK},
		{changed(1, water(10, 10)), api.OK},
		{changed(1, water(1, 10)), api.OK},
		{changed(1, water(0, 10)), api.ErrRange},
		{changed(1, water(1, 11)), api.ErrRange},
		{changed(1, water(5, 4)), api.ErrRange},
		{changed(1, water(10, 1)), api.ErrRange},
		{changed(2, water(0, 0)), api.ErrRange},
		{changed(2, water(11, 11)), api.ErrRange},
		{changed(2, water(11, 10)), api.ErrRange},
		{changed(2, water(1, 0)), api.ErrRange},
		{changed(1, water(math.MinInt64, math.MaxInt64)), api.ErrRange},
		{changed(1, every(1)), api.OK},
		{changed(1, every(10)), api.OK},
		{changed(1, every(0)), api.ErrRange},
		{changed(0, every(11)), api.ErrRange},
		{changed(1, every(-1)), api.ErrRange},
		{changed(1, every(math.MinInt64)), api.ErrRange},
		{changed(1, every(math.MaxInt64)), api.ErrRange},
		{changed(1, logs(0)), api.OK},
		{changed(1, logs(10000)), api.OK},
		{changed(1, logs(-1)), api.ErrRange},
		{changed(2, logs(10001)), api.ErrRange},
		{changed(1, logs(math.MinInt64)), api.ErrRange},
		{changed(1, logs(math.MaxInt64)), api.ErrRange},
		{changed(1, ready(1)), api.OK},
		{changed(1, ready(10)), api.OK},
		{changed(1, ready(0)), api.ErrRange},
		{changed(0, ready(11)), api.ErrRange},
		{changed(1, ready(math.MinInt64)), api.ErrRange},
		{changed(1, ready(math.MaxInt64)), api.ErrRange},
		// the order of errors
		{river(0), api.ErrRange},
		{river(41, slices.Repeat([]api.DriveReach{reach(-2, 0, 0, 0, 0, 0, 0, 0)}, 9)...), api.ErrRange},
		{river(5, slices.Repeat([]api.DriveReach{reach(-2, 0, 0, 0, 0, 0, 0, 0)}, 9)...), api.ErrMany},
		{river(5, slices.Repeat([]api.DriveReach{reach(-1, -1, 0, 0, 0, 0, 0, 0)}, 9)...), api.ErrMany},
		{river(5, reach(-1, -1, 11, 0, 6, 0, -1, 0), reach(1, 1, 1, 1, 5, 1, 1, 1)), api.ErrArg},
		{river(5, reach(2, -1, 11, 0, 6, 0, -1, 0), one), api.ErrArg},
	} {
		if e := drive.CheckRiver(x.r); e != x.e {
			t.Errorf("%d: CheckRiver(%v) = %d, want %d", i, x.r, e, x.e)
		}
	}
}

// answers are what the functions return for a river.
type answers struct {
	t *testing.T
	r api.DriveRiver
}

// is checks that a function returned an error, and beside it only zero values.
func (a answers) is(name string, e, want api.Errno, zero bool) {
	a.t.Helper()
	if e != want || !zero {
		a.t.Errorf("%s of %v: error %d, want %d; all zero: %v", name, a.r, e, want, zero)
	}
}

// ofDay checks that all functions with a day return an error, whether the other arguments are right or wrong.
func (a answers) ofDay(day int64, want api.Errno) {
	a.t.Helper()
	for _, plan := range [][][]int64{nil, lists(list(-1)), make([][]int64, len(a.r.Reaches)), early(a.r)} {
		n, e := drive.CheckPlan(a.r, plan, day)
		a.is("CheckPlan", e, want, n == 0)
	}
	most, e := drive.Most(a.r, day)
	a.is("Most", e, want, most == 0)
	for _, first := range [][]int64{nil, list(-1), again(len(a.r.Reaches), 0), again(len(a.r.Reaches), 1)} {
		bound, e := drive.CheckCut(a.r, day, first)
		a.is("CheckCut", e, want, bound == 0)
	}
	cut, e := drive.Cut(a.r, day)
	a.is("Cut", e, want, len(cut) == 0)
	for _, k := range []int{-1, 0, len(a.r.Reaches), math.MinInt, math.MaxInt} {
		worth, e := drive.Worth(a.r, day, k)
		a.is("Worth", e, want, worth == 0)
		latest, e := drive.Latest(a.r, day, k)
		a.is("Latest", e, want, latest == 0)
	}
}

// early is the early plan, nothing if the river is not valid.
func early(r api.DriveRiver) [][]int64 {
	plan, _ := drive.Plan(r)
	return plan
}

// Every function returns the error of CheckRiver first, with zero values, whatever else is wrong.
func TestErrorOfRiverFirst(t *testing.T) {
	for _, r := range []api.DriveRiver{
		river(0), river(41, reach(-1, 0, 0, 1, 1, 1, 0, 1)), river(5), river(5, make([]api.DriveReach, 9)...),
		river(5, reach(0, 1, 1, 1, 5, 1, 1, 1)), river(5, reach(-1, 1001, 1, 1, 5, 1, 1, 1)), river(5, reach(-1, 1, 1, 1, 5, 0, 1, 1)), river(5, reach(-1, 1, 1, 5, 1, 1, 1, 1)),
	} {
		want := drive.CheckRiver(r)
		if want == api.OK {
			t.Errorf("CheckRiver(%v) = OK", r)
		}
		a := answers{t, r}
		for _, day := range list(math.MinInt64, -1, 0, 1, 5, 6, math.MaxInt64) {
			a.ofDay(day, want)
		}
		plan, e := drive.Plan(r)
		a.is("Plan", e, want, len(plan) == 0)
		for _, logs := range list(math.MinInt64, -1, 0, 1, math.MaxInt64) {
			by, e := drive.By(r, logs)
			a.is("By", e, want, by == 0)
		}
		left, e := drive.Left(r)
		a.is("Left", e, want, len(left) == 0)
	}
}

// Every function with a day returns ErrRange next if it is none of the river, whatever else is wrong.
func TestErrorOfDay(t *testing.T) {
	for _, r := range []api.DriveRiver{riverV(), river(1, reach(-1, 1, 0, 1, 1, 1, 1, 1)), stair(1)} {
		for _, day := range list(0, r.Days+1, -1, math.MinInt64, math.MaxInt64) {
			answers{t, r}.ofDay(day, api.ErrRange)
		}
	}
}

// Every function with a reach returns ErrArg then if there is none such.
func TestErrorOfReach(t *testing.T) { // P5.6
	for _, r := range []api.DriveRiver{riverV(), river(1, reach(-1, 1, 0, 1, 1, 1, 1, 1)), stair(1)} {
		a := answers{t, r}
		for _, k := range []int{-1, len(r.Reaches), len(r.Reaches) + 1, math.MinInt, math.MaxInt} {
			worth, e := drive.Worth(r, 1, k)
			a.is("Worth", e, api.ErrArg, worth == 0)
			latest, e := drive.Latest(r, r.Days, k)
			a.is("Latest", e, api.ErrArg, latest == 0)
		}
	}
}

// planV returns the early plan of the river V with other numbers, each told by its reach, its day and itself.
func planV(changes ...[3]int64) [][]int64 {
	plan := rivers()[0].plan
	for _, c := range changes {
		plan[c[0]][c[1]-1] = c[2]
	}
	return plan
}

func TestCheckPlan(t *testing.T) { // P5.2
	without := func(i int) [][]int64 { p := planV(); p[i] = p[i][:9]; return p }
	longer := func(i int) [][]int64 { p := planV(); p[i] = append(p[i], 0); return p }
	one := river(1, reach(-1, 3, 0, 1, 1, 1, 2, 1))
	for i, x := range []struct {
		r    api.DriveRiver
		plan [][]int64
		day  int64
		want int64
		e    api.Errno
	}{
		{riverV(), planV(), 1, 0, api.OK},
		{riverV(), planV(), 2, 0, api.OK},
		{riverV(), planV(), 3, 4, api.OK},
		{riverV(), planV(), 6, 15, api.OK},
		{riverV(), planV(), 7, 17, api.OK},
		{riverV(), planV(), 8, 20, api.OK},
		{riverV(), planV(), 10, 20, api.OK},
		{riverV(), lists(nothing(10), nothing(10), nothing(10)), 10, 0, api.OK},
		{riverV(), planV([3]int64{2, 7, 0}), 10, 17, api.OK},
		{riverV(), planV([3]int64{2, 7, 2}), 8, 19, api.OK},
		{riverV(), planV([3]int64{2, 7, 2}, [3]int64{2, 8, 1}), 8, 19, api.OK}, // later than the early plan
		{riverV(), planV([3]int64{2, 7, 2}, [3]int64{2, 8, 1}), 9, 20, api.OK},
		{one, lists(list(2)), 1, 2, api.OK},
		{one, lists(list(1)), 1, 1, api.OK},
		{one, lists(list(0)), 1, 0, api.OK},
		// lists too few, too many, too short, too long
		{riverV(), nil, 8, 0, api.ErrEqual},
		{riverV(), planV()[:2], 8, 0, api.ErrEqual},
		{riverV(), append(planV(), nothing(10)), 8, 0, api.ErrEqual},
		{riverV(), without(0), 8, 0, api.ErrEqual},
		{riverV(), without(2), 8, 0, api.ErrEqual},
		{riverV(), longer(0), 8, 0, api.ErrEqual},
		{riverV(), longer(2), 8, 0, api.ErrEqual},
		{riverV(), make([][]int64, 3), 8, 0, api.ErrEqual},
		{one, lists(nil), 1, 0, api.ErrEqual},
		{one, lists(list(1), nil), 1, 0, api.ErrEqual},
		// below 0, above Pass, also on days that are not open or not asked for
		{riverV(), planV([3]int64{0, 1, -1}), 8, 0, api.ErrRange},
		{riverV(), planV([3]int64{1, 2, -1}), 8, 0, api.ErrRange},
		{riverV(), planV([3]int64{2, 10, -1}), 1, 0, api.ErrRange},
		{riverV(), planV([3]int64{0, 6, 4}), 8, 0, api.ErrRange},
		{riverV(), planV([3]int64{1, 2, 6}), 8, 0, api.ErrRange},
		{riverV(), planV([3]int64{2, 10, 5}), 1, 0, api.ErrRange},
		{one, lists(list(4)), 1, 0, api.ErrRange},
		{one, lists(list(math.MinInt64)), 1, 0, api.ErrRange},
		{one, lists(list(math.MaxInt64)), 1, 0, api.ErrRange},
		// not open: before the water, after it, with the dam shut
		{riverV(), planV([3]int64{2, 1, 1}), 8, 0, api.ErrRule},
		{riverV(), planV([3]int64{2, 10, 1}), 8, 0, api.ErrRule},
		{riverV(), planV([3]int64{0, 7, 1}), 1, 0, api.ErrRule},
		{riverV(), planV([3]int64{1, 2, 1}), 8, 0, api.ErrRule},
		{riverV(), planV([3]int64{1, 10, 5}), 8, 0, api.ErrRule},
		// not yet come: not ready, not enough on the bank, not enough from above, still under way
		{riverV(), planV([3]int64{1, 1, 1}), 8, 0, api.ErrSum},
		{riverV(), planV([3]int64{1, 7, 1}), 1, 0, api.ErrSum},
		{riverV(), planV([3]int64{0, 5, 1}), 8, 0, api.ErrSum},
		{riverV(), planV([3]int64{0, 4, 0}), 8, 0, api.ErrSum},
		{riverV(), planV([3]int64{1, 3, 4}), 8, 0, api.ErrSum},
		{riverV(), planV([3]int64{1, 3, 4}, [3]int64{1, 7, 1}), 8, 0, api.ErrSum},
		{riverV(), planV([3]int64{2, 4, 4}), 8, 0, api.ErrSum},
		{riverV(), planV([3]int64{2, 6, 3}, [3]int64{2, 7, 2}), 8, 0, api.ErrSum}, // a day too early
		{riverV(), planV([3]int64{2, 9, 1}), 1, 0, api.ErrSum},
		{one, lists(list(3)), 1, 0, api.ErrSum},
		// the order of errors
		{riverV(), append(planV([3]int64{0, 1, -1}), nil), 8, 0, api.ErrEqual},
		{riverV(), lists(list(-1), list(9), list(2)), 8, 0, api.ErrEqual},
		{riverV(), planV([3]int64{2, 1, 1}, [3]int64{2, 10, 5}), 8, 0, api.ErrRange},
		{riverV(), planV([3]int64{0, 7, 1}, [3]int64{0, 5, -1}), 8, 0, api.ErrRange},
		{riverV(), planV([3]int64{1, 1, 1}, [3]int64{0, 1, 4}), 8, 0, api.ErrRange},
		{riverV(), planV([3]int64{1, 1, 1}, [3]int64{2, 10, 1}), 8, 0, api.ErrRule},
		{riverV(), planV([3]int64{0, 5, 1}, [3]int64{1, 2, 1}), 8, 0, api.ErrRule},
	} {
		if got, e := drive.CheckPlan(x.r, x.plan, x.day); got != x.want || e != x.e {
			t.Errorf("%d: CheckPlan(%v, %v, %d) = %d, %d, want %d, %d", i, x.r, x.plan, x.day, got, e, x.want, x.e)
		}
	}
}

// sameLists reports whether two lists of lists are equal.
func sameLists(one, two [][]int64) bool {
	return slices.EqualFunc(one, two, slices.Equal[[]int64])
}

func TestPlanAndLeft(t *testing.T) { // P5.2, P5.5
	for i, x := range rivers() {
		if got, e := drive.Plan(x.r); !sameLists(got, x.plan) || e != api.OK {
			t.Errorf("%d: Plan(%v) = %v, %d, want %v", i, x.r, got, e, x.plan)
		}
		for k, want := range x.most {
			if got, e := drive.CheckPlan(x.r, x.plan, int64(k)+1); got != want || e != api.OK {
				t.Errorf("%d: CheckPlan(%v, %v, %d) = %d, %d, want %d", i, x.r, x.plan, k+1, got, e, want)
			}
		}
		if got, e := drive.Left(x.r); !slices.Equal(got, x.left) || e != api.OK {
			t.Errorf("%d: Left(%v) = %v, %d, want %v", i, x.r, got, e, x.left)
		}
	}
}

func TestMostAndBy(t *testing.T) { // P5.3
	for i, x := range rivers() {
		for k, want := range x.most {
			if got, e := drive.Most(x.r, int64(k)+1); got != want || e != api.OK {
				t.Errorf("%d: Most(%v, %d) = %d, %d, want %d", i, x.r, k+1, got, e, want)
			}
		}
		all := slices.Max(x.most)
		for logs := range all + 1 {
			want := int64(slices.IndexFunc(x.most, func(n int64) bool { return n >= logs })) + 1
			if got, e := drive.By(x.r, logs); got != want || e != api.OK {
				t.Errorf("%d: By(%v, %d) = %d, %d, want %d", i, x.r, logs, got, e, want)
			}
		}
		for _, logs := range list(all+1, all+2, math.MaxInt64) {
			if got, e := drive.By(x.r, logs); got != 0 || e != api.ErrDry {
				t.Errorf("%d: By(%v, %d) = %d, %d, want ErrDry", i, x.r, logs, got, e)
			}
		}
		for _, logs := range list(-1, math.MinInt64) {
			if got, e := drive.By(x.r, logs); got != 0 || e != api.ErrRange {
				t.Errorf("%d: By(%v, %d) = %d, %d, want ErrRange", i, x.r, logs, got, e)
			}
		}
	}
	for _, x := range [][3]int64{{20, 8, 0}, {16, 7, 0}, {0, 1, 0}, {21, 0, int64(api.ErrDry)}} { // the examples of the chapter
		if got, e := drive.By(riverV(), x[0]); got != x[1] || int64(e) != x[2] {
			t.Errorf("By(V, %d) = %d, %d, want %d, %d", x[0], got, e, x[1], x[2])
		}
	}
}

func TestCheckCut(t *testing.T) { // P5.4
	dry := river(4, reach(1, 5, 0, 2, 4, 2, 7, 3), reach(-1, 3, 1, 1, 4, 1, 4, 1))
	for i, x := range []struct {
		r     api.DriveRiver
		day   int64
		first []int64
		want  int64
		e     api.Errno
	}{
		// the examples of the chapter
		{riverV(), 6, list(1, 2, 5), 15, api.OK},
		{riverV(), 6, list(7, 7, 7), 20, api.OK},
		{riverV(), 6, list(1, 1, 1), 16, api.OK},
		{riverV(), 6, list(1, 1, 8), 0, api.ErrRange},
		// by hand
		{riverV(), 6, list(1, 1, 7), 27, api.OK},
		{riverV(), 6, list(2, 3, 7), 37, api.OK},
		{riverV(), 1, list(1, 1, 1), 0, api.OK},
		{riverV(), 1, list(2, 2, 2), 12, api.OK},
		{riverV(), 10, list(1, 2, 2), 34, api.OK},
		{riverV(), 10, list(11, 11, 11), 20, api.OK},
		{dry, 4, list(5, 5), 11, api.OK},        // 7 + 4
		{dry, 4, list(1, 1), 9, api.OK},         // the last reach on 1 2 3
		{dry, 4, list(1, 5), 14, api.OK},        // the first reach on 2 4, and 4
		{dry, 4, list(3, 5), 9, api.OK},         // on 4, and 4
		{dry, 4, list(4, 5), 16, api.OK},        // on 4, and 7 + 4
		{dry, 4, list(3, 4), 4, api.OK},         // nothing counts but 4
		{dry, 4, list(2, 3), 5 + 4 + 3, api.OK}, // on 2, the last one on 3, and 4
		{dry, 3, list(1, 4), 5 + 4, api.OK},
		{dry, 3, list(4, 1), 7 + 6, api.OK},
		{dry, 3, list(3, 1), 6, api.OK},
		{river(1, reach(-1, 3, 0, 1, 1, 1, 5, 1)), 1, list(1), 3, api.OK},
		{river(1, reach(-1, 3, 0, 1, 1, 1, 5, 1)), 1, list(2), 5, api.OK},
		{river(1, reach(-1, 3, 1, 1, 1, 1, 5, 1)), 1, list(1), 0, api.OK},
		{river(40, slices.Repeat([]api.DriveReach{reach(-1, 1000, 0, 1, 40, 1, 10000, 40)}, 8)...), 40, again(8, 1), 320000, api.OK},
		{river(40, slices.Repeat([]api.DriveReach{reach(-1, 1000, 0, 1, 40, 1, 10000, 40)}, 8)...), 40, again(8, 41), 80000, api.OK},
		{river(40, slices.Repeat([]api.DriveReach{reach(-1, 1000, 0, 1, 40, 1, 10000, 40)}, 8)...), 40, again(8, 40), 8000, api.OK},
		{stair(4), 33, again(8, 34), 1, api.OK},
		{stair(4), 33, again(8, 1), 29, api.OK},
		{stair(4), 32, list(1, 5, 9, 13, 17, 21, 25, 29), 0, api.OK},
		// too few first days, too many, and such as are none
		{riverV(), 6, nil, 0, api.ErrEqual},
		{riverV(), 6, list(1, 2), 0, api.ErrEqual},
		{riverV(), 6, list(1, 2, 3, 4), 0, api.ErrEqual},
		{riverV(), 6, list(0, 1, 1), 0, api.ErrRange},
		{riverV(), 6, list(1, 1, 0), 0, api.ErrRange},
		{riverV(), 6, list(8, 1, 1), 0, api.ErrRange},
		{riverV(), 10, list(1, 12, 1), 0, api.ErrRange},
		{riverV(), 1, list(1, 3, 1), 0, api.ErrRange},
		{riverV(), 6, list(1, math.MinInt64, 1), 0, api.ErrRange},
		{riverV(), 6, list(1, math.MaxInt64, 1), 0, api.ErrRange},
		// the order of errors
		{riverV(), 6, list(0, 8), 0, api.ErrEqual},
		{riverV(), 6, list(0, 8, 9, -1), 0, api.ErrEqual},
	} {
		if got, e := drive.CheckCut(x.r, x.day, x.first); got != x.want || e != x.e {
			t.Errorf("%d: CheckCut(%v, %d, %v) = %d, %d, want %d, %d", i, x.r, x.day, x.first, got, e, x.want, x.e)
		}
	}
}

func TestCut(t *testing.T) { // P5.4, P5.7
	for i, x := range rivers() {
		for k, want := range x.most {
			first, e := drive.Cut(x.r, int64(k)+1)
			bound, f := drive.CheckCut(x.r, int64(k)+1, first)
			if bound != want || e != api.OK || f != api.OK {
				t.Errorf("%d: Cut(%v, %d) = %v, %d: CheckCut says %d, %d, want %d", i, x.r, k+1, first, e, bound, f, want)
			}
		}
	}
}

func TestWorthAndLatest(t *testing.T) { // P5.6
	plain := river(5, reach(-1, 1, 0, 1, 5, 1, 9, 1))
	for i, x := range []struct {
		r             api.DriveRiver
		day           int64
		reach         int
		worth, latest int64
	}{
		// the examples of the chapter
		{riverV(), 6, 0, 1, 1},
		{riverV(), 6, 1, 0, 3},
		{riverV(), 6, 2, 1, 3},
		{riverV(), 8, 1, 0, 3},
		{riverV(), 10, 1, 0, 5},
		// before any log can come
		{riverV(), 2, 0, 0, 10},
		{riverV(), 2, 1, 0, 10},
		{riverV(), 1, 2, 0, 10},
		// each open day counts, up to the logs that there are
		{plain, 1, 0, 1, 1},
		{plain, 3, 0, 3, 1},
		{plain, 5, 0, 4, 1},
		{river(5, reach(-1, 1000, 0, 1, 5, 1, 9999, 1)), 5, 0, 5, 1},
		{river(5, reach(-1, 1000, 0, 1, 5, 1, 5001, 1)), 5, 0, 1, 1},
		{river(5, reach(-1, 1000, 0, 1, 5, 1, 5000, 1)), 5, 0, 0, 1},
		{river(5, reach(-1, 1000, 0, 1, 5, 1, 4000, 1)), 5, 0, 0, 2},
		{river(40, reach(-1, 1000, 0, 1, 40, 10, 10000, 1)), 40, 0, 4, 1},
		{river(40, reach(-1, 1000, 10, 1, 40, 10, 3000, 1)), 31, 0, 0, 1},
		{river(40, reach(-1, 1000, 10, 1, 40, 10, 3000, 1)), 40, 0, 0, 1},
		{river(40, reach(-1, 1000, 10, 1, 40, 10, 2000, 1)), 40, 0, 0, 11},
		// a reach through which nothing passes
		{river(5, reach(-1, 0, 0, 1, 5, 3, 9, 1)), 5, 0, 2, 5},
		{river(5, reach(-1, 0, 0, 1, 5, 1, 0, 1)), 5, 0, 0, 5},
		// a narrow one above, below or beside is what counts
		{river(5, reach(1, 5, 0, 1, 5, 1, 9, 1), reach(-1, 1, 0, 1, 5, 1, 0, 1)), 5, 0, 0, 1},
		{river(5, reach(1, 5, 0, 1, 5, 1, 9, 1), reach(-1, 1, 0, 1, 5, 1, 0, 1)), 5, 1, 4, 5},
		{river(5, reach(1, 1, 0, 1, 5, 1, 9, 1), reach(-1, 5, 0, 1, 5, 1, 0, 1)), 5, 0, 4, 1},
		{river(5, reach(1, 1, 0, 1, 5, 1, 9, 1), reach(-1, 5, 0, 1, 5, 1, 0, 1)), 5, 1, 0, 5},
		{river(5, reach(-1, 1, 0, 1, 5, 1, 9, 1), reach(-1, 9, 0, 1, 5, 1, 9, 1)), 5, 1, 0, 5},
		// two that are as narrow: neither is worth widening alone
		{river(5, reach(1, 1, 0, 1, 5, 1, 9, 1), reach(-1, 1, 0, 1, 5, 1, 0, 1)), 5, 0, 0, 1},
		{river(5, reach(1, 1, 0, 1, 5, 1, 9, 1), reach(-1, 1, 0, 1, 5, 1, 0, 1)), 5, 1, 0, 5},
		// the reach's own day, days between, the last one
		{river(5, reach(-1, 9, 0, 1, 5, 1, 9, 3)), 5, 0, 0, 5},
		{river(5, reach(-1, 9, 0, 1, 5, 1, 9, 3)), 4, 0, 0, 4},
		{river(5, reach(-1, 9, 0, 1, 5, 1, 9, 3)), 3, 0, 0, 3},
		{river(5, reach(-1, 9, 0, 1, 5, 1, 9, 3)), 2, 0, 0, 5},
		{river(5, reach(-1, 9, 1, 1, 5, 1, 9, 3)), 5, 0, 0, 4},
		{river(5, reach(-1, 9, 0, 1, 5, 1, 9, 5)), 5, 0, 0, 5},
		{river(5, reach(-1, 9, 0, 1, 5, 3, 9, 1)), 5, 0, 0, 4},
		{river(5, reach(-1, 9, 0, 1, 4, 1, 9, 1)), 5, 0, 0, 4},
		{river(1, reach(-1, 1, 0, 1, 1, 1, 9, 1)), 1, 0, 1, 1},
		// logs that can be missing: as many come from elsewhere
		{river(3, reach(1, 9, 0, 1, 3, 1, 6, 1), reach(-1, 2, 0, 1, 3, 1, 6, 1)), 3, 0, 0, 3},
		{river(3, reach(1, 9, 0, 1, 3, 1, 6, 1), reach(-1, 2, 0, 1, 3, 1, 6, 1)), 3, 1, 3, 3},
	} {
		if got, e := drive.Worth(x.r, x.day, x.reach); got != x.worth || e != api.OK {
			t.Errorf("%d: Worth(%v, %d, %d) = %d, %d, want %d", i, x.r, x.day, x.reach, got, e, x.worth)
		}
		if got, e := drive.Latest(x.r, x.day, x.reach); got != x.latest || e != api.OK {
			t.Errorf("%d: Latest(%v, %d, %d) = %d, %d, want %d", i, x.r, x.day, x.reach, got, e, x.latest)
		}
	}
}
