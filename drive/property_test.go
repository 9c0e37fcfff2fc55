package drive_test

import (
	"fmt"
	"iter"
	"math"
	"math/rand/v2"
	"reflect"
	"slices"
	"testing"

	"peavey/api"
	"peavey/drive"
)

// The definitions of the chapter, word for word, with nothing that the package computes.

// isOpen reports whether a day is an open one.
func isOpen(x api.DriveReach, day int64) bool {
	for open := x.Water.Lo; open <= x.Water.Hi; open += x.Every {
		if open == day {
			return true
		}
	}
	return false
}

// manyOpen returns how many open days a reach has.
func manyOpen(x api.DriveReach) int64 {
	var many int64
	for day := range int64(40) {
		if isOpen(x, day+1) {
			many++
		}
	}
	return many
}

// enteredBy returns how many logs enter a reach up to a day.
func enteredBy(plan [][]int64, i int, day int64) int64 {
	var logs int64
	for k, n := range plan[i] {
		if int64(k)+1 <= day {
			logs += n
		}
	}
	return logs
}

// comeBy returns how many logs come above a reach up to a day, or to the boom (-1).
func comeBy(r api.DriveRiver, plan [][]int64, down int, day int64) int64 {
	var logs int64
	if down >= 0 && r.Reaches[down].Ready <= day {
		logs = r.Reaches[down].Logs
	}
	for i, x := range r.Reaches {
		if x.Down == down {
			logs += enteredBy(plan, i, day-x.Takes)
		}
	}
	return logs
}

// checkPlan returns what CheckPlan does for a valid river and a day of it.
func checkPlan(r api.DriveRiver, plan [][]int64, day int64) (int64, api.Errno) {
	if len(plan) != len(r.Reaches) || slices.ContainsFunc(plan, func(l []int64) bool { return int64(len(l)) != r.Days }) {
		return 0, api.ErrEqual
	}
	var beyond, shut, missing bool
	for i, x := range r.Reaches {
		for k, n := range plan[i] {
			beyond = beyond || n < 0 || n > x.Pass
			shut = shut || n > 0 && !isOpen(x, int64(k)+1)
			missing = missing || enteredBy(plan, i, int64(k)+1) > comeBy(r, plan, i, int64(k)+1)
		}
	}
	switch {
	case beyond:
		return 0, api.ErrRange
	case shut:
		return 0, api.ErrRule
	case missing:
		return 0, api.ErrSum
	}
	return comeBy(r, plan, -1, day), api.OK
}

// empty returns the plan by which no log enters.
func empty(r api.DriveRiver) [][]int64 {
	var plan [][]int64
	for range r.Reaches {
		plan = append(plan, nothing(int(r.Days)))
	}
	return plan
}

// earlyPlan returns the early plan.
func earlyPlan(r api.DriveRiver) [][]int64 {
	plan := empty(r)
	for day := int64(1); day <= r.Days; day++ {
		for i, x := range r.Reaches {
			if isOpen(x, day) {
				plan[i][day-1] = min(x.Pass, comeBy(r, plan, i, day)-enteredBy(plan, i, day))
			}
		}
	}
	return plan
}

// rightPlans yields all right plans, each in the same memory: day by day, reach by reach, what can enter.
func rightPlans(r api.DriveRiver) iter.Seq[[][]int64] {
	return func(yield func([][]int64) bool) {
		plan := empty(r)
		var from func(day int64, i int) bool
		from = func(day int64, i int) bool {
			switch {
			case day > r.Days:
				return yield(plan)
			case i == len(r.Reaches):
				return from(day+1, 0)
			}
			most := int64(0)
			if x := r.Reaches[i]; isOpen(x, day) {
				most = min(x.Pass, comeBy(r, plan, i, day)-enteredBy(plan, i, day))
			}
			for n := range most + 1 {
				plan[i][day-1] = n
				if !from(day, i+1) {
					return false
				}
			}
			plan[i][day-1] = 0
			return true
		}
		from(1, 0)
	}
}

// counted returns how many open days of a reach are counted in the bound of a cut.
func counted(r api.DriveRiver, day int64, first []int64, i int) int64 {
	var many int64
	x := r.Reaches[i]
	for d := first[i]; d <= r.Days; d++ {
		if isOpen(x, d) && (x.Down >= 0 && d+x.Takes < first[x.Down] || x.Down < 0 && d+x.Takes <= day) {
			many++
		}
	}
	return many
}

// boundOf returns the bound of a cut.
func boundOf(r api.DriveRiver, day int64, first []int64) int64 {
	var bound int64
	for i, x := range r.Reaches {
		if first[i] > x.Ready {
			bound += x.Logs
		}
		bound += x.Pass * counted(r, day, first, i)
	}
	return bound
}

// cuts yields all cuts for a day, each in the same memory.
func cuts(reaches int, day int64) iter.Seq[[]int64] {
	return func(yield func([]int64) bool) {
		first := again(reaches, 1)
		for {
			if !yield(first) {
				return
			}
			i := 0
			for i < reaches && first[i] == day+1 {
				first[i] = 1
				i++
			}
			if i == reaches {
				return
			}
			first[i]++
		}
	}
}

// Rivers to test.

// with returns a river with another reach.
func with(r api.DriveRiver, i int, change func(*api.DriveReach)) api.DriveRiver {
	r.Reaches = slices.Clone(r.Reaches)
	change(&r.Reaches[i])
	return r
}

// oneReach yields all rivers of a reach and so many days, with numbers from 0 or 1 on up to so many.
func oneReach(days, pass, takes, every, logs int64) iter.Seq[api.DriveRiver] {
	return func(yield func(api.DriveRiver) bool) {
		for p := range pass + 1 {
			for k := range takes + 1 {
				for water := range days * days {
					for e := range every {
						for n := range logs + 1 {
							for ready := range days {
								x := reach(-1, p, k, water/days+1, water%days+1, e+1, n, ready+1)
								if x.Water.Lo <= x.Water.Hi && !yield(river(days, x)) {
									return
								}
							}
						}
					}
				}
			}
		}
	}
}

// randomRiver returns a river with so many days and reaches, and numbers up to so many.
func randomRiver(r *rand.Rand, days int64, reaches int, pass, takes, every, logs int64) api.DriveRiver {
	x := river(days)
	for i := range reaches {
		down := -1
		if later := reaches - 1 - i; later > 0 && r.IntN(5) > 0 {
			down = i + 1 + r.IntN(later)
		}
		one, two := 1+r.Int64N(days), 1+r.Int64N(days)
		if r.IntN(2) == 0 {
			one, two = 1, max(one, two)
		}
		x.Reaches = append(x.Reaches, reach(down, r.Int64N(pass+1), r.Int64N(takes+1), min(one, two), max(one, two), 1+r.Int64N(every), r.Int64N(logs+1), 1+r.Int64N(1+r.Int64N(days))))
	}
	return x
}

// tiny yields rivers with few right plans.
func tiny() iter.Seq[api.DriveRiver] {
	return func(yield func(api.DriveRiver) bool) {
		for _, all := range []iter.Seq[api.DriveRiver]{oneReach(1, 2, 1, 2, 2), oneReach(2, 2, 2, 2, 3), oneReach(3, 2, 1, 2, 4)} {
			for r := range all {
				if !yield(r) {
					return
				}
			}
		}
		r := rand.New(rand.NewPCG(5, 5))
		for i := range 900 {
			x := randomRiver(r, 1+r.Int64N(4), 2, 2, 2, 2, 3)
			if i%3 == 0 {
				x = randomRiver(r, 1+r.Int64N(3), 3, 2, 1, 2, 2)
			}
			if !yield(x) {
				return
			}
		}
	}
}

// small yields rivers with few cuts.
func small() iter.Seq[api.DriveRiver] {
	return func(yield func(api.DriveRiver) bool) {
		for r := range tiny() {
			if !yield(r) {
				return
			}
		}
		r := rand.New(rand.NewPCG(6, 6))
		for range 250 {
			if !yield(randomRiver(r, 1+r.Int64N(6), 1+r.IntN(3), 4, 3, 3, 9)) || !yield(randomRiver(r, 4+r.Int64N(9), 2, 4, 3, 3, 20)) || !yield(randomRiver(r, 1+r.Int64N(4), 4, 4, 2, 2, 9)) {
				return
			}
		}
	}
}

// all yields rivers of all sizes.
func all() iter.Seq[api.DriveRiver] {
	return func(yield func(api.DriveRiver) bool) {
		for r := range small() {
			if !yield(r) {
				return
			}
		}
		for _, x := range rivers() {
			if !yield(x.r) {
				return
			}
		}
		r := rand.New(rand.NewPCG(7, 7))
		for range 30 {
			if !yield(randomRiver(r, 1+r.Int64N(40), 1+r.IntN(8), 9, 4, 4, 60)) || !yield(randomRiver(r, 40, 8, 20, 3, 3, 200)) || !yield(randomRiver(r, 40, 8, 1000, 10, 10, 10000)) {
				return
			}
		}
	}
}

// What the package says, without an error.

func must[T any](t *testing.T, x T, e api.Errno) T {
	t.Helper()
	if e != api.OK {
		t.Fatalf("error %d", e)
	}
	return x
}

func plan(t *testing.T, r api.DriveRiver) [][]int64 {
	t.Helper()
	p, e := drive.Plan(r)
	return must(t, p, e)
}

func most(t *testing.T, r api.DriveRiver, day int64) int64 {
	t.Helper()
	n, e := drive.Most(r, day)
	return must(t, n, e)
}

func brings(t *testing.T, r api.DriveRiver, p [][]int64, day int64) int64 {
	t.Helper()
	n, e := drive.CheckPlan(r, p, day)
	return must(t, n, e)
}

func bound(t *testing.T, r api.DriveRiver, day int64, first []int64) int64 {
	t.Helper()
	n, e := drive.CheckCut(r, day, first)
	return must(t, n, e)
}

func cut(t *testing.T, r api.DriveRiver, day int64) []int64 {
	t.Helper()
	first, e := drive.Cut(r, day)
	return must(t, first, e)
}

func worth(t *testing.T, r api.DriveRiver, day int64, i int) int64 {
	t.Helper()
	n, e := drive.Worth(r, day, i)
	return must(t, n, e)
}

func latest(t *testing.T, r api.DriveRiver, day int64, i int) int64 {
	t.Helper()
	n, e := drive.Latest(r, day, i)
	return must(t, n, e)
}

// allMost returns how many logs can come by each day.
func allMost(t *testing.T, r api.DriveRiver) []int64 {
	t.Helper()
	var l []int64
	for day := int64(1); day <= r.Days; day++ {
		l = append(l, most(t, r, day))
	}
	return l
}

// Each function does what its definition says.

func TestCheckPlanAgainstDefinition(t *testing.T) { // P5.2
	check := func(r api.DriveRiver, p [][]int64, day int64) {
		t.Helper()
		got, e := drive.CheckPlan(r, p, day)
		if want, f := checkPlan(r, p, day); got != want || e != f {
			t.Fatalf("CheckPlan(%v, %v, %d) = %d, %d, want %d, %d", r, p, day, got, e, want, f)
		}
	}
	// All plans with numbers from -1 to one more than Pass.
	for _, r := range []api.DriveRiver{
		river(1, reach(-1, 2, 0, 1, 1, 1, 1, 1)), river(2, reach(-1, 2, 1, 2, 2, 1, 2, 1)), river(3, reach(-1, 2, 1, 1, 3, 2, 3, 1)), river(3, reach(-1, 1, 0, 2, 3, 1, 2, 2)),
		river(2, reach(1, 1, 0, 1, 2, 1, 1, 1), reach(-1, 2, 0, 1, 2, 1, 1, 2)), river(2, reach(1, 1, 1, 1, 2, 1, 2, 1), reach(-1, 1, 0, 2, 2, 1, 0, 1)), river(2, reach(-1, 1, 1, 1, 1, 1, 1, 1), reach(-1, 0, 0, 1, 2, 1, 1, 1)),
		river(3, reach(1, 1, 1, 1, 3, 1, 2, 1), reach(-1, 1, 1, 1, 3, 2, 0, 1)),
	} {
		cells := len(r.Reaches) * int(r.Days)
		many := 1
		for i := range cells {
			many *= int(r.Reaches[i/int(r.Days)].Pass) + 3
		}
		for digits := range many {
			p := empty(r)
			for i := range cells {
				base := int(r.Reaches[i/int(r.Days)].Pass) + 3
				p[i/int(r.Days)][i%int(r.Days)] = int64(digits%base) - 1
				digits /= base
			}
			for day := int64(1); day <= r.Days; day++ {
				check(r, p, day)
			}
		}
	}
	// Right plans, and those that differ from one in one or two numbers.
	random := rand.New(rand.NewPCG(52, 5))
	for r := range all() {
		for k := range 12 {
			p := earlyPlan(r)
			for range k % 4 {
				i, d := random.IntN(len(p)), random.Int64N(r.Days)
				p[i][d] = max(0, p[i][d]+random.Int64N(5)-3)
				if random.IntN(9) == 0 {
					p[i][d] = random.Int64N(r.Reaches[i].Pass+3) - 1
				}
			}
			check(r, p, 1+random.Int64N(r.Days))
		}
	}
}

func TestPlanAndLeftAgainstDefinition(t *testing.T) { // P5.2, P5.5
	for r := range all() {
		want := earlyPlan(r)
		if got := plan(t, r); !sameLists(got, want) {
			t.Fatalf("Plan(%v) = %v, want %v", r, got, want)
		}
		var left []int64
		for i := range r.Reaches {
			left = append(left, comeBy(r, want, i, r.Days)-enteredBy(want, i, r.Days))
		}
		if got, e := drive.Left(r); !slices.Equal(got, left) || e != api.OK {
			t.Fatalf("Left(%v) = %v, %d, want %v", r, got, e, left)
		}
	}
}

func TestMostAndByAgainstDefinition(t *testing.T) { // P5.3, P5.7, G5
	for r := range tiny() {
		want := nothing(int(r.Days))
		for p := range rightPlans(r) {
			for k := range want {
				want[k] = max(want[k], comeBy(r, p, -1, int64(k)+1))
			}
		}
		if got := allMost(t, r); !slices.Equal(got, want) {
			t.Fatalf("Most of %v = %v, want %v", r, got, want)
		}
		for logs := range slices.Max(want) + 2 {
			by, e := drive.By(r, logs)
			day := int64(slices.IndexFunc(want, func(n int64) bool { return n >= logs })) + 1
			if by != day || (day == 0) != (e == api.ErrDry) || day > 0 && e != api.OK {
				t.Fatalf("By(%v, %d) = %d, %d, want %d", r, logs, by, e, day)
			}
		}
	}
}

func TestCutsAgainstDefinition(t *testing.T) { // P5.4, P5.7, G5
	for r := range small() {
		for day := int64(1); day <= r.Days; day++ {
			least := int64(math.MaxInt64)
			for first := range cuts(len(r.Reaches), day) {
				want := boundOf(r, day, first)
				if got := bound(t, r, day, first); got != want {
					t.Fatalf("CheckCut(%v, %d, %v) = %d, want %d", r, day, first, got, want)
				}
				least = min(least, want)
			}
			first := cut(t, r, day)
			if got := bound(t, r, day, first); got != least {
				t.Fatalf("Cut(%v, %d) = %v with the bound %d, want %d", r, day, first, got, least)
			}
			if got := most(t, r, day); got != least {
				t.Fatalf("Most(%v, %d) = %d, want %d", r, day, got, least)
			}
		}
	}
}

// In larger rivers the early plan brings as many as the bound of the cut that is told; no more is possible, and no other bound is less.
func TestProved(t *testing.T) { // P5.2, P5.3, P5.4, P5.7, G5
	random := rand.New(rand.NewPCG(57, 5))
	for r := range all() {
		p := plan(t, r)
		for day := int64(1); day <= r.Days; day++ {
			first := cut(t, r, day)
			if len(first) != len(r.Reaches) || slices.Min(first) < 1 || slices.Max(first) > day+1 {
				t.Fatalf("Cut(%v, %d) = %v", r, day, first)
			}
			logs := most(t, r, day)
			if got := boundOf(r, day, first); got != logs || bound(t, r, day, first) != logs || brings(t, r, p, day) != logs || comeBy(r, p, -1, day) != logs {
				t.Fatalf("%v by %d: Most %d, Plan %d, bound %d of %v", r, day, logs, brings(t, r, p, day), got, first)
			}
			for range 3 {
				other := slices.Clone(first)
				for i := range other {
					if random.IntN(3) == 0 {
						other[i] = 1 + random.Int64N(day+1)
					}
				}
				if got, want := bound(t, r, day, other), boundOf(r, day, other); got != want || got < logs {
					t.Fatalf("CheckCut(%v, %d, %v) = %d, want %d; Most is %d", r, day, other, got, want, logs)
				}
			}
		}
	}
}

func TestWorthAndLatestAgainstDefinition(t *testing.T) { // P5.6
	for r := range all() {
		days := list(r.Days, (r.Days+1)/2)
		if r.Days <= 6 {
			days = list(1, 2, 3, 4, 5, 6)[:r.Days]
		}
		for _, day := range days {
			logs := comeBy(r, earlyPlan(r), -1, day)
			for i := range r.Reaches {
				wider := with(r, i, func(x *api.DriveReach) { x.Pass++ })
				if got, want := worth(t, r, day, i), comeBy(wider, earlyPlan(wider), -1, day)-logs; got != want {
					t.Fatalf("Worth(%v, %d, %d) = %d, want %d", r, day, i, got, want)
				}
				var last int64
				for ready := int64(1); ready <= r.Days; ready++ {
					later := with(r, i, func(x *api.DriveReach) { x.Ready = ready })
					if comeBy(later, earlyPlan(later), -1, day) == logs {
						last = ready
					}
				}
				if got := latest(t, r, day, i); got != last {
					t.Fatalf("Latest(%v, %d, %d) = %d, want %d", r, day, i, got, last)
				}
			}
		}
	}
}

// The properties.

func TestEarly(t *testing.T) { // P5.8
	for r := range tiny() {
		early := plan(t, r)
		if _, e := checkPlan(r, early, r.Days); e != api.OK {
			t.Fatalf("Plan(%v) = %v is not right: %d", r, early, e)
		}
		for p := range rightPlans(r) {
			for i := range r.Reaches {
				for day := int64(1); day <= r.Days; day++ {
					if enteredBy(early, i, day) < enteredBy(p, i, day) {
						t.Fatalf("up to day %d more logs enter the reach %d of %v by %v than by Plan, %v", day, i, r, p, early)
					}
				}
			}
			if day := r.Days; brings(t, r, p, day) > brings(t, r, early, day) {
				t.Fatalf("%v brings more logs in %v than Plan, %v", p, r, early)
			}
		}
	}
}

func TestBy(t *testing.T) { // P5.9
	for r := range all() {
		l := allMost(t, r)
		if !slices.IsSorted(l) {
			t.Fatalf("Most of %v is %v", r, l)
		}
		top := l[r.Days-1]
		for _, logs := range list(0, 1, top/3, top/2, top-1, top) {
			if logs < 0 || logs > top {
				continue
			}
			day, e := drive.By(r, logs)
			if e != api.OK || l[day-1] < logs || day > 1 && l[day-2] >= logs {
				t.Fatalf("By(%v, %d) = %d, %d; Most is %v", r, logs, day, e, l)
			}
		}
		if day, e := drive.By(r, top+1); day != 0 || e != api.ErrDry {
			t.Fatalf("By(%v, %d) = %d, %d, want ErrDry; Most is %v", r, top+1, day, e, l)
		}
	}
}

func TestWorth(t *testing.T) { // P5.10
	for r := range small() {
		for day := int64(1); day <= r.Days; day++ {
			least := most(t, r, day)
			bare := map[int]bool{} // of which no open day is counted in the bound of some cut that has the least one
			for first := range cuts(len(r.Reaches), day) {
				if boundOf(r, day, first) == least {
					for i := range r.Reaches {
						bare[i] = bare[i] || counted(r, day, first, i) == 0
					}
				}
			}
			for i, x := range r.Reaches {
				if n := worth(t, r, day, i); n < 0 || n > manyOpen(x) || bare[i] && n != 0 {
					t.Fatalf("Worth(%v, %d, %d) = %d", r, day, i, n)
				}
			}
		}
	}
}

func TestLatest(t *testing.T) { // P5.11
	for r := range small() {
		for day := int64(1); day <= r.Days; day++ {
			logs := most(t, r, day)
			for i, x := range r.Reaches {
				last := latest(t, r, day, i)
				if last < x.Ready || last > r.Days {
					t.Fatalf("Latest(%v, %d, %d) = %d", r, day, i, last)
				}
				for ready := x.Ready; ready <= min(last+1, r.Days); ready++ {
					n := most(t, with(r, i, func(x *api.DriveReach) { x.Ready = ready }), day)
					if ready <= last && n != logs || ready > last && n >= logs {
						t.Fatalf("Latest(%v, %d, %d) = %d: Most is %d, with Ready %d it is %d", r, day, i, last, logs, ready, n)
					}
				}
			}
		}
	}
}

func TestTimes(t *testing.T) { // P5.12
	random := rand.New(rand.NewPCG(512, 5))
	for r := range all() {
		for _, times := range list(0, 1, 2, 7, 100) {
			more := r
			more.Reaches = slices.Clone(r.Reaches)
			for i := range more.Reaches {
				more.Reaches[i].Pass *= times
				more.Reaches[i].Logs *= times
			}
			if drive.CheckRiver(more) != api.OK {
				continue
			}
			day := 1 + random.Int64N(r.Days)
			if got, want := most(t, more, day), times*most(t, r, day); got != want {
				t.Fatalf("%d times as many logs in %v, by %d: Most %d, want %d", times, r, day, got, want)
			}
			var first []int64
			for range r.Reaches {
				first = append(first, 1+random.Int64N(day+1))
			}
			if got, want := bound(t, more, day, first), times*bound(t, r, day, first); got != want {
				t.Fatalf("%d times as many logs in %v, by %d: bound of %v %d, want %d", times, r, day, first, got, want)
			}
		}
	}
}

func TestMoved(t *testing.T) { // P5.13
	random := rand.New(rand.NewPCG(513, 5))
	for r := range all() {
		by := random.Int64N(41 - r.Days)
		if r.Days < 30 {
			by = 1 + random.Int64N(10)
		}
		later := r
		later.Reaches = slices.Clone(r.Reaches)
		later.Days += by
		for i := range later.Reaches {
			later.Reaches[i].Ready += by
			later.Reaches[i].Water.Lo += by
			later.Reaches[i].Water.Hi += by
		}
		if got, want := allMost(t, later), then(nothing(int(by)), allMost(t, r)); !slices.Equal(got, want) {
			t.Fatalf("%v, %d days later: Most %v, want %v", r, by, got, want)
		}
		p := plan(t, r)
		for i := range p {
			p[i] = then(nothing(int(by)), p[i])
		}
		if got := plan(t, later); !sameLists(got, p) {
			t.Fatalf("%v, %d days later: Plan %v, want %v", r, by, got, p)
		}
	}
}

// betterReaches yields what is better than a reach in a river of so many days. Water that begins earlier is better only if the dam is opened on the same days, and earlier ones: otherwise it is opened on other days.
func betterReaches(x api.DriveReach, days int64) iter.Seq[api.DriveReach] {
	return func(yield func(api.DriveReach) bool) {
		for _, change := range []func(x *api.DriveReach){
			func(x *api.DriveReach) { x.Logs++ },
			func(x *api.DriveReach) { x.Logs += 20 },
			func(x *api.DriveReach) { x.Pass++ },
			func(x *api.DriveReach) { x.Pass += 5 },
			func(x *api.DriveReach) { x.Water.Hi++ },
			func(x *api.DriveReach) { x.Water.Hi = days },
			func(x *api.DriveReach) { x.Water.Lo -= x.Every },
			func(x *api.DriveReach) { x.Water.Lo -= 2 * x.Every },
			func(x *api.DriveReach) { x.Takes-- },
			func(x *api.DriveReach) { x.Takes = 0 },
			func(x *api.DriveReach) { x.Every = 1 },
			func(x *api.DriveReach) { x.Ready-- },
			func(x *api.DriveReach) { x.Ready = 1 },
		} {
			better := x
			change(&better)
			if !yield(better) {
				return
			}
		}
	}
}

func TestMore(t *testing.T) { // P5.14
	for r := range small() {
		l := allMost(t, r)
		for i := range r.Reaches {
			for x := range betterReaches(r.Reaches[i], r.Days) {
				better := with(r, i, func(y *api.DriveReach) { *y = x })
				if drive.CheckRiver(better) != api.OK {
					continue
				}
				for k, n := range allMost(t, better) {
					if n < l[k] {
						t.Fatalf("by %d %d logs come in %v, only %d in %v", k+1, l[k], r, n, better)
					}
				}
			}
		}
	}
}

// putBetween returns a river with a reach that lets all logs in at once, between some of the reaches that have the same one below, and this one; the new reach has the index i.
func putBetween(r api.DriveRiver, i, down int, whose func(int) bool) api.DriveRiver {
	moved := func(k int) int {
		if k >= i {
			k++
		}
		return k
	}
	between := reach(moved(down), 1000, 0, 1, r.Days, 1, 0, 1)
	var reaches []api.DriveReach
	for k, x := range r.Reaches {
		if x.Down == down && k < i && whose(k) {
			x.Down = i
		} else {
			x.Down = moved(x.Down)
		}
		reaches = append(reaches, x)
	}
	return river(r.Days, slices.Insert(reaches, i, between)...)
}

func TestPutBetween(t *testing.T) { // P5.15
	random := rand.New(rand.NewPCG(515, 5))
	for r := range small() {
		l := allMost(t, r)
		for down := -1; down < len(r.Reaches); down++ {
			last := down
			if down == -1 {
				last = len(r.Reaches)
			}
			for i := range last + 1 {
				mixed := putBetween(r, i, down, func(int) bool { return random.IntN(3) > 0 })
				if got := allMost(t, mixed); !slices.Equal(got, l) {
					t.Fatalf("Most of %v is %v, of %v %v", r, l, mixed, got)
				}
				left, e := drive.Left(mixed)
				want, f := drive.Left(r)
				if must(t, left, e)[i] != 0 || !slices.Equal(slices.Delete(left, i, i+1), must(t, want, f)) {
					t.Fatalf("Left of %v is %v, of %v %v and 0 at %d", r, want, mixed, left, i)
				}
			}
		}
	}
}

// The rules.

// results calls all functions, and returns all that they return.
func results(r api.DriveRiver, p [][]int64, first []int64, day int64) []any {
	var all []any
	keep := func(x ...any) { all = append(all, x...) }
	keep(drive.CheckRiver(r))
	brings, e := drive.CheckPlan(r, p, day)
	keep(brings, e)
	early, e := drive.Plan(r)
	keep(early, e)
	most, e := drive.Most(r, day)
	keep(most, e)
	by, e := drive.By(r, most)
	keep(by, e)
	bound, e := drive.CheckCut(r, day, first)
	keep(bound, e)
	cut, e := drive.Cut(r, day)
	keep(cut, e)
	left, e := drive.Left(r)
	keep(left, e)
	for i := range r.Reaches {
		worth, e := drive.Worth(r, day, i)
		keep(worth, e)
		latest, e := drive.Latest(r, day, i)
		keep(latest, e)
	}
	return all
}

func TestNothingSharedNorChanged(t *testing.T) { // R4, R9, R10
	for _, x := range rivers() {
		r, p, first := x.r, x.plan, again(len(x.r.Reaches), 1)
		r.Reaches = slices.Clip(r.Reaches)
		before := fmt.Sprint(r, p, first)
		one := results(r, p, first, r.Days)
		told := fmt.Sprint(one)
		results(riverV(), planV(), list(1, 2, 5), 6)
		if two := results(r, p, first, r.Days); !reflect.DeepEqual(one, two) {
			t.Errorf("%v: %v, then %v", r, one, two)
		}
		if after := fmt.Sprint(r, p, first); after != before {
			t.Errorf("%s became %s", before, after)
		}
		// What is done with arguments, and with other results, changes no result.
		early, again := plan(t, r), plan(t, r)
		for i := range early {
			whole := early[i][:cap(early[i])]
			for k := range whole {
				whole[k] = -7
			}
			early[i] = append(early[i], -7)
			for k := i + 1; k < len(early); k++ {
				if !slices.Equal(early[k], again[k]) {
					t.Errorf("Plan(%v): the list %d shares memory with the list %d", r, k, i)
				}
			}
		}
		if !sameLists(again, x.plan) {
			t.Errorf("Plan(%v) became %v", r, again)
		}
		clear(r.Reaches)
		clear(first)
		for i := range p {
			clear(p[i])
		}
		if now := fmt.Sprint(one); now != told {
			t.Errorf("%s became %s", told, now)
		}
	}
}

func TestNilIsEmpty(t *testing.T) { // R3
	for _, r := range []api.DriveRiver{{Days: 5}, {Days: 5, Reaches: []api.DriveReach{}}, {}} {
		if e, want := drive.CheckRiver(r), drive.CheckRiver(river(r.Days)); e != want {
			t.Errorf("CheckRiver(%v) = %d, want %d", r, e, want)
		}
	}
	for _, plan := range [][][]int64{nil, {}, {nil, nil, nil}, {{}, {}, {}}} {
		if n, e := drive.CheckPlan(riverV(), plan, 6); n != 0 || e != api.ErrEqual {
			t.Errorf("CheckPlan(V, %v, 6) = %d, %d, want ErrEqual", plan, n, e)
		}
	}
	for _, first := range [][]int64{nil, {}} {
		if n, e := drive.CheckCut(riverV(), 6, first); n != 0 || e != api.ErrEqual {
			t.Errorf("CheckCut(V, 6, %v) = %d, %d, want ErrEqual", first, n, e)
		}
	}
}

func TestAnyArguments(t *testing.T) { // P1, R5
	random := rand.New(rand.NewPCG(51, 5))
	odd := func() int64 {
		l := list(math.MinInt64, math.MinInt64+1, -2, -1, 0, 1, 1, 1, 2, 3, 4, 5, 10, 11, 40, 41, 1000, 1001, 10000, 10001, math.MaxInt64-1, math.MaxInt64)
		return l[random.IntN(len(l))]
	}
	for i := range 30000 {
		r := randomRiver(random, 1+random.Int64N(5), 1+random.IntN(4), 5, 2, 3, 9)
		for range random.IntN(3) {
			k := random.IntN(len(r.Reaches))
			r.Reaches[k] = reach(int(odd()), odd(), odd(), odd(), odd(), odd(), odd(), odd())
		}
		if i%5 == 0 {
			r.Days = odd()
		}
		day := odd()
		p := make([][]int64, random.IntN(5))
		for k := range p {
			for range random.IntN(7) {
				p[k] = append(p[k], odd())
			}
		}
		var first []int64
		for range random.IntN(5) {
			first = append(first, odd())
		}
		results(r, p, first, day)
		switch e := drive.CheckRiver(r); {
		case e != api.OK:
			answers{t, r}.ofDay(day, e)
			continue
		case day < 1 || day > r.Days:
			answers{t, r}.ofDay(day, api.ErrRange)
		default:
			n, e := drive.CheckPlan(r, p, day)
			if want, f := checkPlan(r, p, day); n != want || e != f {
				t.Fatalf("CheckPlan(%v, %v, %d) = %d, %d, want %d, %d", r, p, day, n, e, want, f)
			}
		}
		logs := odd()
		by, e := drive.By(r, logs)
		want := api.OK
		switch {
		case logs < 0:
			want = api.ErrRange
		case logs > most(t, r, r.Days):
			want = api.ErrDry
		}
		if e != want || (by >= 1 && by <= r.Days) != (e == api.OK) || e != api.OK && by != 0 {
			t.Fatalf("By(%v, %d) = %d, %d, want %d", r, logs, by, e, want)
		}
	}
}

// The widest and longest rivers.
func TestLimits(t *testing.T) {
	wide := river(40, slices.Repeat([]api.DriveReach{reach(-1, 1000, 0, 1, 40, 1, 10000, 1)}, 8)...)
	long := river(40)
	for i := range 8 {
		long.Reaches = append(long.Reaches, reach(i+1, 1000, 1, 1, 40, 1, 10000, 1))
	}
	long.Reaches[7].Down = -1
	for i, x := range []struct {
		r    api.DriveRiver
		day  int64
		want int64
	}{{wide, 1, 8000}, {wide, 9, 72000}, {wide, 10, 80000}, {wide, 40, 80000}, {long, 1, 0}, {long, 2, 1000}, {long, 40, 39000}} {
		if got := most(t, x.r, x.day); got != x.want {
			t.Errorf("%d: Most by %d is %d, want %d", i, x.day, got, x.want)
		}
		if got := bound(t, x.r, x.day, cut(t, x.r, x.day)); got != x.want {
			t.Errorf("%d: bound by %d is %d, want %d", i, x.day, got, x.want)
		}
	}
	if got := worth(t, wide, 40, 7); got != 0 {
		t.Errorf("Worth of a wide river by 40 is %d, want 0", got)
	}
	if got := worth(t, wide, 9, 7); got != 9 {
		t.Errorf("Worth of a wide river by 9 is %d, want 9", got)
	}
	if got := worth(t, long, 40, 7); got != 39 {
		t.Errorf("Worth of a long river by 40 is %d, want 39", got)
	}
	if got := latest(t, wide, 40, 7); got != 31 {
		t.Errorf("Latest of a wide river by 40 is %d, want 31", got)
	}
}
