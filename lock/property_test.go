package lock_test

import (
	"fmt"
	"iter"
	"math"
	"math/rand/v2"
	"reflect"
	"slices"
	"sync"
	"testing"

	"peavey/api"
	"peavey/lock"
)

// The definitions of the chapter, word for word, with nothing that the package computes.

// throughOf returns when each raft is through in an order.
func throughOf(t api.LockTow, order []int) []int64 {
	many := len(order)
	in, done, left := make([]int64, many), make([]int64, many), make([]int64, many)
	gone, through := make([]int64, many), make([]int64, many)
	for i, raft := range order {
		if i > 0 {
			in[i] = left[i-1]
		}
		done[i] = in[i] + t.Rafts[raft].First
		gone[i] = done[i]
		if i > 0 {
			gone[i] = max(done[i], through[i-1])
		}
		through[i] = gone[i] + t.Rafts[raft].Second
		switch {
		case t.Room == 0:
			left[i] = gone[i]
		case i-t.Room >= 0:
			left[i] = max(done[i], gone[i-t.Room])
		default:
			left[i] = done[i]
		}
	}
	byRaft := make([]int64, many)
	for i, raft := range order {
		byRaft[raft] = through[i]
	}
	return byRaft
}

// timeOf returns the time of an order.
func timeOf(t api.LockTow, order []int) int64 { return slices.Max(throughOf(t, order)) }

// Where a raft is.
const (
	before = iota
	inFirst
	between
	inSecond
	behind
)

// canal is rafts in their order, where they are, and when each one has come there.
type canal struct {
	t     api.LockTow
	order []int
	at    []int
	since []int64
}

// in returns how many rafts are at a place.
func (c *canal) in(place int) int {
	many := 0
	for _, at := range c.at {
		if at == place {
			many++
		}
	}
	return many
}

// step lets the raft i go on in a minute if it can, and reports whether it could.
func (c *canal) step(i int, minute int64) bool {
	raft, next := c.t.Rafts[c.order[i]], c.at[i]+1
	isFirst := i == 0 || c.at[i-1] == behind
	can := false
	switch c.at[i] {
	case before:
		can = c.in(inFirst) == 0 && (i == 0 || c.at[i-1] > before)
	case inFirst:
		can = minute >= c.since[i]+raft.First
		if c.t.Room == 0 {
			can, next = can && isFirst, inSecond
		} else {
			can = can && c.in(between) < c.t.Room
		}
	case between:
		can = isFirst
	case inSecond:
		can = minute >= c.since[i]+raft.Second
	}
	if can {
		c.at[i], c.since[i] = next, minute
	}
	return can
}

// watched returns when each raft is through in an order, as somebody sees it who looks minute by minute where the rafts are.
func watched(t api.LockTow, order []int) []int64 {
	c := &canal{t, order, make([]int, len(order)), make([]int64, len(order))}
	for minute := int64(0); c.in(behind) < len(order); minute++ {
		for changed := true; changed; {
			changed = false
			for i := range order {
				changed = c.step(i, minute) || changed
			}
		}
	}
	byRaft := make([]int64, len(order))
	for i, raft := range order {
		byRaft[raft] = c.since[i]
	}
	return byRaft
}

// ordersOf yields all orders of so many rafts, in lexicographic order.
func ordersOf(many int) iter.Seq[[]int] {
	return func(yield func([]int) bool) {
		order := make([]int, many)
		for i := range order {
			order[i] = i
		}
		for {
			if !yield(slices.Clone(order)) {
				return
			}
			// The next one: the last element that a greater one comes after is exchanged with the last one of these.
			i := many - 2
			for i >= 0 && order[i] > order[i+1] {
				i--
			}
			if i < 0 {
				return
			}
			j := many - 1
			for order[j] < order[i] {
				j--
			}
			order[i], order[j] = order[j], order[i]
			slices.Reverse(order[i+1:])
		}
	}
}

// bestOf returns the least time of an order, the first order that has it, and the rafts that are the first one of one that has it.
func bestOf(t api.LockTow) (int64, []int, []int) {
	best := int64(math.MaxInt64)
	var first, firsts []int
	for order := range ordersOf(len(t.Rafts)) {
		switch n := timeOf(t, order); {
		case n < best:
			best, first, firsts = n, order, list(order[0])
		case n == best && !slices.Contains(firsts, order[0]):
			firsts = append(firsts, order[0])
		}
	}
	return best, first, firsts
}

// boundOf returns the bound of a lock and a time, and whether there is one.
func boundOf(t api.LockTow, which int, time int64) (int64, bool) {
	bound, is := time, false
	for _, r := range t.Rafts {
		here, other := r.First, r.Second
		if which == 2 {
			here, other = other, here
		}
		if here >= time {
			bound, is = bound+other, true
		} else {
			bound += min(r.First, r.Second)
		}
	}
	return bound, is
}

// isBefore reports whether the rule has a raft before another one.
func isBefore(t api.LockTow, one, two int) bool {
	a, b := t.Rafts[one], t.Rafts[two]
	aIsEarly, bIsEarly := !(a.First > a.Second), !(b.First > b.Second)
	switch {
	case aIsEarly != bIsEarly:
		return aIsEarly
	case aIsEarly && a.First != b.First:
		return a.First < b.First
	case !aIsEarly && a.Second != b.Second:
		return a.Second > b.Second
	}
	return one < two
}

// withRoom returns a tow with another Room.
func withRoom(t api.LockTow, room int) api.LockTow {
	return api.LockTow{Rafts: t.Rafts, Room: room}
}

// Tows to test.

// every yields all tows of so many rafts that take up to so many minutes in each lock, with a Room of up to room.
func every(many int, most int64, room int) iter.Seq[api.LockTow] {
	return func(yield func(api.LockTow) bool) {
		minutes := make([]int64, 2*many)
		for {
			for r := range room + 1 {
				if !yield(tow(r, minutes...)) {
					return
				}
			}
			i := slices.IndexFunc(minutes, func(x int64) bool { return x < most })
			if i < 0 {
				return
			}
			minutes[i]++
			clear(minutes[:i])
		}
	}
}

// random yields so many tows of least to most rafts.
func random(seed uint64, many, least, most int) iter.Seq[api.LockTow] {
	return func(yield func(api.LockTow) bool) {
		r := rand.New(rand.NewPCG(seed, 9))
		for range many {
			t := api.LockTow{Rafts: make([]api.LockRaft, least+r.IntN(most-least+1)), Room: r.IntN(3)}
			if r.IntN(4) == 0 {
				t.Room = r.IntN(8)
			}
			greatest := times(1, 3, 10, 1000)[r.IntN(4)]
			for i := range t.Rafts {
				t.Rafts[i] = api.LockRaft{First: r.Int64N(greatest + 1), Second: r.Int64N(greatest + 1)}
				// Often one takes long in one lock, so that others wait.
				switch r.IntN(6) {
				case 0:
					t.Rafts[i].First = min(1000, 5*greatest)
				case 1:
					t.Rafts[i].Second = min(1000, 5*greatest)
				}
			}
			if !yield(t) {
				return
			}
		}
	}
}

// all yields the tows of several sources.
func all(sources ...iter.Seq[api.LockTow]) iter.Seq[api.LockTow] {
	return func(yield func(api.LockTow) bool) {
		for _, source := range sources {
			for t := range source {
				if !yield(t) {
					return
				}
			}
		}
	}
}

// small yields all tows of up to three rafts that take up to two minutes, and of four that take up to one, and some of up to five.
func small() iter.Seq[api.LockTow] {
	return all(every(1, 3, 2), every(2, 2, 2), every(3, 2, 2), every(4, 1, 3), random(1, 300, 2, 5), random(2, 150, 5, 5))
}

// large yields the tows that are known, and some of six or seven rafts.
func large() iter.Seq[api.LockTow] {
	known := func(yield func(api.LockTow) bool) {
		for _, x := range tows() {
			if !yield(x.t) {
				return
			}
		}
	}
	return all(known, random(3, 40, 6, 6), random(4, 20, 7, 7))
}

// someOrders yields all orders of up to four rafts, and some of more rafts.
func someOrders(r *rand.Rand, many int) iter.Seq[[]int] {
	if many <= 4 {
		return ordersOf(many)
	}
	return func(yield func([]int) bool) {
		for range 40 {
			if !yield(r.Perm(many)) {
				return
			}
		}
	}
}

// The functions, for arguments that are right.

func must[T any](t *testing.T, x T, e api.Errno) T {
	t.Helper()
	if e != api.OK {
		t.Fatalf("error %d", e)
	}
	return x
}

func timeIn(t *testing.T, w api.LockTow, order []int) int64 {
	t.Helper()
	n, e := lock.Time(w, order)
	return must(t, n, e)
}

func best(t *testing.T, w api.LockTow) int64 {
	t.Helper()
	n, e := lock.Best(w)
	return must(t, n, e)
}

func order(t *testing.T, w api.LockTow) []int {
	t.Helper()
	l, e := lock.Order(w)
	return must(t, l, e)
}

func firsts(t *testing.T, w api.LockTow) []int {
	t.Helper()
	l, e := lock.Firsts(w)
	return must(t, l, e)
}

func rule(t *testing.T, w api.LockTow) []int {
	t.Helper()
	l, e := lock.Rule(w)
	return must(t, l, e)
}

func enough(t *testing.T, w api.LockTow) int {
	t.Helper()
	n, e := lock.Enough(w)
	return must(t, n, e)
}

func proof(t *testing.T, w api.LockTow) (int, int64) {
	t.Helper()
	which, time, e := lock.Proof(w)
	if e != api.OK {
		t.Fatalf("Proof(%v): error %d", w, e)
	}
	return which, time
}

func bound(t *testing.T, w api.LockTow, which int, time int64) int64 {
	t.Helper()
	n, e := lock.Bound(w, which, time)
	return must(t, n, e)
}

// Each function against its definition.

func TestThroughAndTimeAgainstDefinition(t *testing.T) { // P9.1, P9.2
	r := rand.New(rand.NewPCG(92, 9))
	for w := range all(small(), large()) {
		if e := lock.CheckTow(w); e != api.OK {
			t.Fatalf("CheckTow(%v) = %d", w, e)
		}
		for order := range someOrders(r, len(w.Rafts)) {
			want := throughOf(w, order)
			if got, e := lock.Through(w, order); !slices.Equal(got, want) || e != api.OK {
				t.Fatalf("Through(%v, %v) = %v, %d, want %v", w, order, got, e, want)
			}
			if n := timeIn(t, w, order); n != slices.Max(want) || n != want[order[len(order)-1]] {
				t.Fatalf("Time(%v, %v) = %d, want the last one of %v", w, order, n, want)
			}
		}
	}
}

// Minute by minute, too, no more rafts are between both locks than there is room for, and none stays where it need not.
func TestThroughWatched(t *testing.T) { // P9.2
	r := rand.New(rand.NewPCG(93, 9))
	for w := range all(small(), large()) {
		isLong := func(r api.LockRaft) bool { return r.First > 50 || r.Second > 50 }
		if slices.ContainsFunc(w.Rafts, isLong) {
			continue
		}
		for order := range someOrders(r, len(w.Rafts)) {
			want := watched(w, order)
			if got, e := lock.Through(w, order); !slices.Equal(got, want) || e != api.OK {
				t.Fatalf("Through(%v, %v) = %v, %d, want %v", w, order, got, e, want)
			}
		}
	}
}

func TestBestOrderAndFirstsAgainstDefinition(t *testing.T) { // P9.3, P9.4, P9.9, G9
	for w := range all(small(), large()) {
		time, first, all := bestOf(w)
		if n := best(t, w); n != time {
			t.Fatalf("Best(%v) = %d, want %d", w, n, time)
		}
		if l := order(t, w); !slices.Equal(l, first) || timeIn(t, w, l) != time {
			t.Fatalf("Order(%v) = %v, want %v", w, l, first)
		}
		if l := firsts(t, w); !slices.Equal(l, all) {
			t.Fatalf("Firsts(%v) = %v, want %v", w, l, all)
		}
	}
}

func TestRuleAgainstDefinition(t *testing.T) { // P9.5
	for w := range all(every(3, 3, 0), small(), large(), random(5, 1000, 6, 7)) {
		l := rule(t, w)
		if len(l) != len(w.Rafts) {
			t.Fatalf("Rule(%v) = %v", w, l)
		}
		for i := 1; i < len(l); i++ {
			if !isBefore(w, l[i-1], l[i]) {
				t.Fatalf("Rule(%v) = %v: %d is not before %d", w, l, l[i-1], l[i])
			}
		}
	}
}

func TestBoundAndProofAgainstDefinition(t *testing.T) { // P9.6
	for w := range all(small(), large(), random(6, 100, 6, 7)) {
		var longest int64
		for _, r := range w.Rafts {
			longest = max(longest, r.First, r.Second)
		}
		wantLock, wantTime, greatest := 0, int64(0), int64(-1)
		for _, which := range list(1, 2) {
			for time := range min(longest+2, 1001) {
				want, is := boundOf(w, which, time)
				if !is {
					answers{t, w}.ofBound(which, time, api.ErrNone)
					continue
				}
				if n := bound(t, w, which, time); n != want {
					t.Fatalf("Bound(%v, %d, %d) = %d, want %d", w, which, time, n, want)
				}
				if want > greatest {
					wantLock, wantTime, greatest = which, time, want
				}
			}
		}
		if which, time := proof(t, w); which != wantLock || time != wantTime {
			t.Fatalf("Proof(%v) = %d, %d, want %d, %d", w, which, time, wantLock, wantTime)
		}
	}
}

func TestEnoughAgainstDefinition(t *testing.T) { // P9.7, P9.10
	for w := range all(small(), large()) {
		wide, _, _ := bestOf(withRoom(w, 7))
		want := 0
		for n, _, _ := bestOf(withRoom(w, want)); n > wide; n, _, _ = bestOf(withRoom(w, want)) {
			want++
		}
		if n := enough(t, w); n != want || n > max(0, len(w.Rafts)-1) {
			t.Fatalf("Enough(%v) = %d, want %d", w, n, want)
		}
	}
}

// The properties.

func TestNoOrderBelowABound(t *testing.T) { // P9.8, G9
	r := rand.New(rand.NewPCG(98, 9))
	for w := range all(small(), large(), random(7, 300, 6, 7)) {
		var greatest int64
		for which := range 3 {
			for time := range int64(1001) {
				if n, e := lock.Bound(w, which, time); e == api.OK {
					greatest = max(greatest, n)
				}
			}
		}
		for order := range someOrders(r, len(w.Rafts)) {
			if n := timeIn(t, w, order); n < greatest {
				t.Fatalf("Time(%v, %v) = %d, but there is a bound of %d", w, order, n, greatest)
			}
		}
		if n := timeIn(t, w, rule(t, w)); n < greatest {
			t.Fatalf("%v: the time of the rule's order is %d, but there is a bound of %d", w, n, greatest)
		}
		which, time := proof(t, w)
		if n := bound(t, w, which, time); n != greatest {
			t.Fatalf("Bound(%v, %d, %d) = %d, the greatest one is %d", w, which, time, n, greatest)
		}
	}
}

func TestProvedWithRoom(t *testing.T) { // P9.8, G9
	for w := range all(small(), large()) {
		for room := len(w.Rafts) - 1; room <= 7; room++ {
			wide := withRoom(w, room)
			which, time := proof(t, wide)
			n, m, k := timeIn(t, wide, rule(t, wide)), best(t, wide), bound(t, wide, which, time)
			if n != m || n != k {
				t.Fatalf("%v: the rule's order has the time %d, Best %d, the bound of Proof %d", wide, n, m, k)
			}
			// Of many rafts the least room and the greatest are enough.
			if len(w.Rafts) > 4 {
				room = max(room, 6)
			}
		}
	}
	for w := range random(8, 2000, 6, 7) {
		wide := withRoom(w, 7)
		which, time := proof(t, wide)
		if n, k := timeIn(t, wide, rule(t, wide)), bound(t, wide, which, time); n != k {
			t.Fatalf("%v: the rule's order has the time %d, the bound of Proof is %d", wide, n, k)
		}
	}
}

func TestBestOfAllOrders(t *testing.T) { // P9.9
	r := rand.New(rand.NewPCG(99, 9))
	for w := range all(small(), large()) {
		n := best(t, w)
		if m := timeIn(t, w, order(t, w)); n != m {
			t.Fatalf("Best(%v) = %d, but Order has %d", w, n, m)
		}
		l := firsts(t, w)
		if !slices.Contains(l, order(t, w)[0]) {
			t.Fatalf("Firsts(%v) = %v, but Order %v", w, l, order(t, w))
		}
		for o := range someOrders(r, len(w.Rafts)) {
			m := timeIn(t, w, o)
			if m < n || m == n && !slices.Contains(l, o[0]) {
				t.Fatalf("Time(%v, %v) = %d, but Best %d, Firsts %v", w, o, m, n, l)
			}
		}
	}
}

func TestMoreRoom(t *testing.T) { // P9.10
	r := rand.New(rand.NewPCG(910, 9))
	for w := range all(small(), large(), random(9, 500, 6, 7)) {
		for o := range someOrders(r, len(w.Rafts)) {
			least := timeIn(t, withRoom(w, 7), o)
			before := timeIn(t, withRoom(w, 0), o)
			for room := 1; room <= 7; room++ {
				n := timeIn(t, withRoom(w, room), o)
				if n > before {
					t.Fatalf("Time(%v, %v) = %d, with less Room %d", withRoom(w, room), o, n, before)
				}
				if room >= len(w.Rafts)-1 && n != least {
					t.Fatalf("Time(%v, %v) = %d, with Room 7 %d", withRoom(w, room), o, n, least)
				}
				before = n
			}
		}
	}
}

func TestRoomThatIsEnough(t *testing.T) { // P9.10
	for w := range all(small(), random(10, 20, 6, 6), random(11, 4, 7, 7)) {
		n, least := enough(t, w), best(t, withRoom(w, 7))
		for room := range 8 {
			m := best(t, withRoom(w, room))
			if (m == least) != (room >= n) || m < least {
				t.Fatalf("Best(%v) = %d, with Room 7 %d, Enough %d", withRoom(w, room), m, least, n)
			}
		}
	}
}

func TestBackwards(t *testing.T) { // P9.11
	r := rand.New(rand.NewPCG(911, 9))
	for w := range all(small(), large(), random(12, 1000, 6, 7)) {
		back := api.LockTow{Room: w.Room}
		for _, raft := range w.Rafts {
			back.Rafts = append(back.Rafts, api.LockRaft{First: raft.Second, Second: raft.First})
		}
		for o := range someOrders(r, len(w.Rafts)) {
			turned := slices.Clone(o)
			slices.Reverse(turned)
			if n, m := timeIn(t, w, o), timeIn(t, back, turned); n != m {
				t.Fatalf("Time(%v, %v) = %d, backwards %d", w, o, n, m)
			}
		}
		for _, which := range list(1, 2) {
			for time := range int64(12) {
				n, e := lock.Bound(w, which, time)
				if m, f := lock.Bound(back, 3-which, time); n != m || e != f {
					t.Fatalf("Bound(%v, %d, %d) = %d, %d, backwards %d, %d", w, which, time, n, e, m, f)
				}
			}
		}
	}
	for w := range all(every(3, 2, 2), random(13, 40, 4, 6)) {
		back := api.LockTow{Room: w.Room}
		for _, raft := range w.Rafts {
			back.Rafts = append(back.Rafts, api.LockRaft{First: raft.Second, Second: raft.First})
		}
		if n, m := best(t, w), best(t, back); n != m || enough(t, w) != enough(t, back) {
			t.Fatalf("Best(%v) = %d, backwards %d, Enough %d, %d", w, n, m, enough(t, w), enough(t, back))
		}
	}
}

func TestLessTime(t *testing.T) { // P9.12
	r := rand.New(rand.NewPCG(912, 9))
	for w := range all(small(), large(), random(14, 500, 6, 7)) {
		for o := range someOrders(r, len(w.Rafts)) {
			n := timeIn(t, w, o)
			less := api.LockTow{Rafts: slices.Clone(w.Rafts), Room: w.Room}
			for raft, minutes := range w.Rafts {
				less.Rafts[raft].First = r.Int64N(minutes.First + 1)
				if m := timeIn(t, less, o); m > n {
					t.Fatalf("Time(%v, %v) = %d, of %v %d", w, o, n, less, m)
				}
				less.Rafts[raft] = minutes
				less.Rafts[raft].Second = r.Int64N(minutes.Second + 1)
				if m := timeIn(t, less, o); m > n {
					t.Fatalf("Time(%v, %v) = %d, of %v %d", w, o, n, less, m)
				}
				less.Rafts[raft] = minutes
			}
		}
	}
}

// leftOut returns a tow, and an order, without a raft.
func leftOut(w api.LockTow, order []int, raft int) (api.LockTow, []int) {
	w.Rafts = slices.Delete(slices.Clone(w.Rafts), raft, raft+1)
	var rest []int
	for _, other := range order {
		switch {
		case other < raft:
			rest = append(rest, other)
		case other > raft:
			rest = append(rest, other-1)
		}
	}
	return w, rest
}

func TestLeftOut(t *testing.T) { // P9.12
	r := rand.New(rand.NewPCG(913, 9))
	for w := range all(small(), large(), random(15, 500, 6, 7)) {
		if len(w.Rafts) == 1 {
			continue
		}
		for o := range someOrders(r, len(w.Rafts)) {
			n := timeIn(t, w, o)
			for raft := range w.Rafts {
				fewer, rest := leftOut(w, o, raft)
				if m := timeIn(t, fewer, rest); m > n {
					t.Fatalf("Time(%v, %v) = %d, without %d %d", w, o, n, raft, m)
				}
			}
		}
	}
}

// multiplied returns a tow with all minutes so many times as great.
func multiplied(w api.LockTow, by int64) api.LockTow {
	w.Rafts = slices.Clone(w.Rafts)
	for i := range w.Rafts {
		w.Rafts[i].First *= by
		w.Rafts[i].Second *= by
	}
	return w
}

func TestTimes(t *testing.T) { // P9.13
	r := rand.New(rand.NewPCG(914, 9))
	for w := range all(small(), large(), random(16, 500, 6, 7)) {
		most := int64(1000)
		for _, raft := range w.Rafts {
			most = min(most, 1000/max(1, raft.First, raft.Second))
		}
		for _, by := range times(0, most, 1+r.Int64N(most)) {
			great := multiplied(w, by)
			for o := range someOrders(r, len(w.Rafts)) {
				if n, m := timeIn(t, w, o), timeIn(t, great, o); n*by != m {
					t.Fatalf("Time(%v, %v) = %d, of %v %d", w, o, n, great, m)
				}
			}
			for _, which := range list(1, 2) {
				for time := range 1000/max(1, by) + 1 {
					n, e := lock.Bound(w, which, time)
					if m, f := lock.Bound(great, which, time*by); by > 0 && e != f || e == api.OK && n*by != m {
						t.Fatalf("Bound(%v, %d, %d) = %d, %d, of %v %d, %d", w, which, time, n, e, great, m, f)
					}
				}
			}
			which, time := proof(t, w)
			if other, m := proof(t, great); by > 0 && (other != which || m != time*by) {
				t.Fatalf("Proof(%v) = %d, %d, of %v %d, %d", w, which, time, great, other, m)
			}
		}
	}
}

func TestBestTimes(t *testing.T) { // P9.13
	for w := range all(every(2, 2, 2), random(17, 100, 3, 5)) {
		for _, by := range times(2, 7) {
			great := multiplied(w, by)
			if lock.CheckTow(great) != api.OK {
				continue
			}
			n, m := best(t, w), best(t, great)
			if n*by != m || !slices.Equal(order(t, w), order(t, great)) || !slices.Equal(firsts(t, w), firsts(t, great)) || enough(t, w) != enough(t, great) {
				t.Fatalf("Best(%v) = %d, of %v %d", w, n, great, m)
			}
		}
	}
}

func TestStepsWithoutRoom(t *testing.T) { // P9.14
	r := rand.New(rand.NewPCG(915, 9))
	for w := range all(small(), large(), random(18, 500, 6, 7)) {
		w.Room = 0
		for o := range someOrders(r, len(w.Rafts)) {
			want := w.Rafts[o[0]].First + w.Rafts[o[len(o)-1]].Second
			for i := 1; i < len(o); i++ {
				want += max(w.Rafts[o[i-1]].Second, w.Rafts[o[i]].First)
			}
			if n := timeIn(t, w, o); n != want {
				t.Fatalf("Time(%v, %v) = %d, want %d", w, o, n, want)
			}
		}
	}
}

// The rules of DOC.md.

// call is a tow with what functions take beside it.
type call struct {
	t     api.LockTow
	order []int
	lock  int
	time  int64
}

// calls returns for each tow that is known, but for some of seven rafts, what is right beside it.
func calls() []call {
	var l []call
	for _, x := range tows() {
		if len(x.t.Rafts) < 7 || x.t.Room == 0 {
			l = append(l, call{x.t, x.order, x.lock, x.time})
		}
	}
	return l
}

// copied returns a call that shares no memory with another one.
func copied(c call) call {
	c.t.Rafts, c.order = slices.Clone(c.t.Rafts), slices.Clone(c.order)
	return c
}

// results returns what all functions return for these arguments.
func results(c call) []any {
	var out []any
	add := func(x ...any) { out = append(out, x...) }
	add(lock.CheckTow(c.t))
	through, e := lock.Through(c.t, c.order)
	add(through, e)
	n, e := lock.Time(c.t, c.order)
	add(n, e)
	n, e = lock.Best(c.t)
	add(n, e)
	l, e := lock.Order(c.t)
	add(l, e)
	l, e = lock.Firsts(c.t)
	add(l, e)
	l, e = lock.Rule(c.t)
	add(l, e)
	n, e = lock.Bound(c.t, c.lock, c.time)
	add(n, e)
	which, n, e := lock.Proof(c.t)
	add(which, n, e)
	room, e := lock.Enough(c.t)
	add(room, e)
	return out
}

// overwrite writes something over all that a list reaches.
func overwrite[T any](l []T, x T) {
	for i := range l[:cap(l)] {
		l[:cap(l)][i] = x
	}
}

// overwriteAll writes over all that results reach.
func overwriteAll(results []any) {
	for _, x := range results {
		switch x := x.(type) {
		case []int:
			overwrite(x, -9)
		case []int64:
			overwrite(x, -9)
		}
	}
}

func TestNothingSharedNorChanged(t *testing.T) { // R4, R9, R10
	for _, x := range calls() {
		c := copied(x)
		want := results(c)
		told := fmt.Sprint(want)
		overwriteAll(results(c))
		if !reflect.DeepEqual(c, copied(x)) {
			t.Errorf("arguments are changed: %v, not %v", c, x)
		}
		results(call{towN(), list(3, 2, 1, 0), 2, 1})
		results(call{})
		for range 2 {
			if got := results(c); !reflect.DeepEqual(got, want) {
				t.Fatalf("another result: %v, not %v", got, want)
			}
		}
		// What is done with arguments changes no result.
		overwrite(c.t.Rafts, api.LockRaft{First: -9, Second: -9})
		overwrite(c.order, -9)
		if now := fmt.Sprint(want); now != told {
			t.Errorf("%s became %s", told, now)
		}
	}
}

// room returns a list with something behind its end.
func room[T any](l []T, behind T) []T {
	return append(slices.Clone(l), behind, behind, behind)[:len(l)]
}

// isBehind reports whether what room put behind the end of a list is still there.
func isBehind[T comparable](l []T, behind T) bool {
	return slices.Equal(l[len(l):len(l)+3], []T{behind, behind, behind})
}

// What is behind the end of a list that is an argument is neither read nor written.
func TestBehindTheEnd(t *testing.T) { // R4
	raft := api.LockRaft{First: 1, Second: 77}
	for _, x := range calls() {
		c := copied(x)
		c.t.Rafts, c.order = room(c.t.Rafts, raft), room(c.order, len(c.order))
		want := results(x)
		if got := results(c); !reflect.DeepEqual(got, want) {
			t.Errorf("%v: %v, with other things behind the ends %v", x, want, got)
		}
		if !isBehind(c.t.Rafts, raft) || !isBehind(c.order, len(c.order)) {
			t.Errorf("%v: what is behind the ends is changed", x)
		}
	}
}

func TestAllAtOnce(t *testing.T) { // R9, R10
	var group sync.WaitGroup
	for _, x := range calls() {
		group.Go(func() {
			want := results(x)
			for range 2 {
				if got := results(x); !reflect.DeepEqual(got, want) {
					t.Errorf("another result: %v, not %v", got, want)
				}
			}
		})
	}
	group.Wait()
}

func TestNilIsEmpty(t *testing.T) { // R3
	for _, w := range []api.LockTow{{}, {Room: 7}, {Room: 8}, towL(), tow(0, 4, 9)} {
		for _, which := range list(0, 1, 2) {
			empty := w
			if w.Rafts == nil {
				empty.Rafts = []api.LockRaft{}
			}
			// Printed, nil and an empty list are the same.
			one, two := fmt.Sprint(results(call{w, nil, which, 1})), fmt.Sprint(results(call{empty, list(), which, 1}))
			if one != two {
				t.Errorf("%s with nil, %s with empty lists", one, two)
			}
		}
	}
}

// errorOfTow returns what CheckTow does.
func errorOfTow(w api.LockTow) api.Errno {
	if len(w.Rafts) < 1 || len(w.Rafts) > 7 {
		return api.ErrMany
	}
	for _, r := range w.Rafts {
		if r.First < 0 || r.First > 1000 || r.Second < 0 || r.Second > 1000 {
			return api.ErrRange
		}
	}
	if w.Room < 0 || w.Room > 7 {
		return api.ErrRange
	}
	return api.OK
}

// errorOfOrder returns ErrRule if a list is no order of a valid tow.
func errorOfOrder(w api.LockTow, order []int) api.Errno {
	sorted := slices.Sorted(slices.Values(order))
	if len(sorted) != len(w.Rafts) {
		return api.ErrRule
	}
	for i, raft := range sorted {
		if raft != i {
			return api.ErrRule
		}
	}
	return api.OK
}

// errorOfBound returns what Bound does for a valid tow.
func errorOfBound(w api.LockTow, which int, time int64) api.Errno {
	if which < 1 || which > 2 {
		return api.ErrArg
	}
	if time < 0 || time > 1000 {
		return api.ErrRange
	}
	if _, is := boundOf(w, which, time); !is {
		return api.ErrNone
	}
	return api.OK
}

// odd returns a number that is often wrong.
func odd(r *rand.Rand) int {
	l := list(math.MinInt, math.MinInt+1, -1<<32, -1, 0, 1, 2, 3, 5, 6, 7, 8, 999, 1000, 1001, 1<<32, 1<<32+1, 1<<62, math.MaxInt-1, math.MaxInt)
	return l[r.IntN(len(l))]
}

// spoil changes something of a call.
func spoil(r *rand.Rand, c *call) {
	i := r.IntN(max(1, len(c.t.Rafts)))
	switch r.IntN(8) {
	case 0:
		c.t.Room = odd(r)
	case 1:
		if len(c.t.Rafts) > 0 {
			c.t.Rafts[i].First = int64(odd(r))
		}
	case 2:
		if len(c.t.Rafts) > 0 {
			c.t.Rafts[i].Second = int64(odd(r))
		}
	case 3:
		c.t.Rafts = slices.Repeat(c.t.Rafts, r.IntN(4))
	case 4:
		c.order = append(c.order, odd(r))
	case 5:
		if len(c.order) > 0 {
			c.order[r.IntN(len(c.order))] = odd(r)
		}
	case 6:
		c.lock = odd(r)
	case 7:
		c.time = int64(odd(r))
	}
}

func TestAnyArguments(t *testing.T) { // P1, R1, R2, R5
	r := rand.New(rand.NewPCG(91, 9))
	for w := range all(random(19, 4000, 1, 4), random(20, 20, 5, 7)) {
		c := call{w, r.Perm(len(w.Rafts)), 1 + r.IntN(2), r.Int64N(4)}
		for r.IntN(4) > 0 {
			spoil(r, &c)
		}
		got := results(c)
		c.check(t)
		if t.Failed() {
			t.Fatalf("%v: %v", c, got)
		}
	}
}

// check checks that all functions return the errors that they should, and beside them only zero values.
func (c call) check(t *testing.T) {
	t.Helper()
	a, valid := answers{t, c.t}, errorOfTow(c.t)
	a.is("CheckTow", lock.CheckTow(c.t), valid, true)
	a.ofTow(valid)
	if valid != api.OK {
		a.ofOrder(c.order, valid)
		a.ofBound(c.lock, c.time, valid)
		return
	}
	a.ofOrder(c.order, errorOfOrder(c.t, c.order))
	a.ofBound(c.lock, c.time, errorOfBound(c.t, c.lock, c.time))
}
