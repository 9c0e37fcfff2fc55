package jam_test

import (
	"math"
	"slices"
	"testing"

	"peavey/api"
	"peavey/jam"
)

func list(x ...int) []int          { return x }
func lists(x ...[]int) [][]int     { return x }
func all(by ...int) api.JamLog     { return api.JamLog{Kind: api.JamAll, By: by} }
func some(by ...int) api.JamLog    { return api.JamLog{Kind: api.JamSome, By: by} }
func kind(k int) api.JamLog        { return api.JamLog{Kind: k} }
func pile(l ...api.JamLog) api.Jam { return api.Jam{Logs: l} }

// jamJ and jamT are the jams J and T of the chapter.
func jamJ() api.Jam { return pile(all(1), all(0), some(0, 3), all(2, 4), all()) }
func jamT() api.Jam { return knot(3) }

// upTo is 0 1 2 .. of so many.
func upTo(many int) []int {
	var l []int
	for i := range many {
		l = append(l, i)
	}
	return l
}

// but is a list without an element.
func but(l []int, x int) []int {
	return slices.DeleteFunc(slices.Clone(l), func(y int) bool { return y == x })
}

// made is so many logs, each as a rule has it.
func made(many int, rule func(log int) api.JamLog) api.Jam {
	var j api.Jam
	for log := range many {
		j.Logs = append(j.Logs, rule(log))
	}
	return j
}

// knot is logs each of which all others hold.
func knot(many int) api.Jam {
	return made(many, func(log int) api.JamLog { return all(but(upTo(many), log)...) })
}

// ring is logs each of which the next one holds, the last one the first one.
func ring(many int, log func(...int) api.JamLog) api.Jam {
	return made(many, func(i int) api.JamLog { return log((i + 1) % many) })
}

// selves is logs each of which holds itself.
func selves(many int, log func(...int) api.JamLog) api.Jam {
	return made(many, func(i int) api.JamLog { return log(i) })
}

// row is logs each of which the one before it holds; a first one is given.
func row(many int, first api.JamLog) api.Jam {
	return made(many, func(i int) api.JamLog {
		if i == 0 {
			return first
		}
		return all(i - 1)
	})
}

// star is a middle log that all others hold, which it holds.
func star(many, middle int) api.Jam {
	return made(many, func(i int) api.JamLog {
		if i == middle {
			return all(but(upTo(many), middle)...)
		}
		return all(middle)
	})
}

// singles is lists of one log each, 0 1 2 .. of so many.
func singles(many int) [][]int {
	var l [][]int
	for i := range many {
		l = append(l, list(i))
	}
	return l
}

// again is a number so many times.
func again(many, x int) []int { return slices.Repeat(list(x), many) }

// same reports whether two lists of lists are equal.
func same(one, two [][]int) bool { return slices.EqualFunc(one, two, slices.Equal[[]int]) }

func TestCheckJam(t *testing.T) { // P6.1
	for i, x := range []struct {
		j api.Jam
		e api.Errno
	}{
		{jamJ(), api.OK},
		{jamT(), api.OK},
		// one log, 12 logs
		{pile(all()), api.OK},
		{pile(some()), api.OK},
		{pile(all(0)), api.OK},
		{pile(some(0)), api.OK},
		{knot(12), api.OK},
		{made(12, func(int) api.JamLog { return some(upTo(12)...) }), api.OK},
		{made(12, func(int) api.JamLog { return all(0, 11) }), api.OK},
		// how many logs
		{pile(), api.ErrMany},
		{made(13, func(int) api.JamLog { return all() }), api.ErrMany},
		{knot(13), api.ErrMany},
		{made(1000, func(int) api.JamLog { return some() }), api.ErrMany},
		// the Kind
		{pile(kind(0), kind(1)), api.OK},
		{pile(kind(-1)), api.ErrRange},
		{pile(kind(2)), api.ErrRange},
		{pile(all(), kind(2), all()), api.ErrRange},
		{pile(all(), all(), kind(-1)), api.ErrRange},
		{pile(kind(math.MinInt)), api.ErrRange},
		{pile(kind(math.MaxInt)), api.ErrRange},
		{pile(kind(256)), api.ErrRange},
		// the By
		{pile(all(-1)), api.ErrArg},
		{pile(all(1)), api.ErrArg},
		{pile(some(-1, 0)), api.ErrArg},
		{pile(some(0, 1)), api.ErrArg},
		{pile(all(), all(0), some(0, 1, 3)), api.ErrArg},
		{pile(all(0, 1, 2), all(0), some(-1, 1)), api.ErrArg},
		{pile(all(0, 0)), api.ErrArg},
		{pile(all(), some(0, 1, 1)), api.ErrArg},
		{pile(all(), some(1, 0)), api.ErrArg},
		{pile(all(), some(0, 2, 1), all()), api.ErrArg},
		{pile(all(math.MinInt)), api.ErrArg},
		{pile(all(math.MaxInt)), api.ErrArg},
		{made(12, func(int) api.JamLog { return all(12) }), api.ErrArg},
		{made(12, func(int) api.JamLog { return all(make([]int, 13)...) }), api.ErrArg},
		{pile(all(upTo(1000)...)), api.ErrArg},
		// the order of errors
		{made(13, func(int) api.JamLog { return kind(2) }), api.ErrMany},
		{made(13, func(int) api.JamLog { return all(-1) }), api.ErrMany},
		{pile(all(5), kind(2)), api.ErrRange},
		{pile(all(0, 0), all(), kind(-1)), api.ErrRange},
		{pile(api.JamLog{Kind: 2, By: list(-1)}), api.ErrRange},
	} {
		if e := jam.CheckJam(x.j); e != x.e {
			t.Errorf("%d: CheckJam(%v) = %d, want %d", i, x.j, e, x.e)
		}
	}
}

// answers are what the functions return for a jam.
type answers struct {
	t *testing.T
	j api.Jam
}

// is checks that a function returned an error, and beside it only zero values.
func (a answers) is(name string, e, want api.Errno, zero bool) {
	a.t.Helper()
	if e != want || !zero {
		a.t.Errorf("%s of %v: error %d, want %d; all zero: %v", name, a.j, e, want, zero)
	}
}

// ofLogs checks that all functions with keys or a lock return an error for a list.
func (a answers) ofLogs(l []int, want api.Errno) {
	a.t.Helper()
	waves, e := jam.Waves(a.j, l)
	a.is("Waves", e, want, len(waves) == 0)
	a.is("CheckKeys", jam.CheckKeys(a.j, l), want, true)
	a.is("CheckLock", jam.CheckLock(a.j, l), want, true)
	stays, e := jam.Stays(a.j, l)
	a.is("Stays", e, want, len(stays) == 0)
	n, e := jam.CheckApart(a.j, lists(l))
	a.is("CheckApart", e, want, n == 0)
}

// ofLog checks that all functions with a log return an error.
func (a answers) ofLog(log int, want api.Errno) {
	a.t.Helper()
	kind, e := jam.Kind(a.j, log)
	a.is("Kind", e, want, kind == 0)
	need, e := jam.Need(a.j, log)
	a.is("Need", e, want, need == 0)
}

// Every function returns the error of CheckJam first, with zero values, whatever else is wrong.
func TestErrorOfJamFirst(t *testing.T) {
	for _, j := range []api.Jam{pile(), made(13, func(int) api.JamLog { return all() }), pile(kind(2)), pile(all(), kind(-1)), pile(all(1)), pile(all(-1)), pile(all(), all(1, 1)), pile(some(1, 0), all())} {
		want := jam.CheckJam(j)
		if want == api.OK {
			t.Errorf("CheckJam(%v) = OK", j)
		}
		a := answers{t, j}
		for _, l := range lists(nil, list(0), list(-1), list(13), list(0, 0), list(1, 0)) {
			a.ofLogs(l, want)
		}
		for _, log := range list(math.MinInt, -1, 0, 1, 12, 13, math.MaxInt) {
			a.ofLog(log, want)
		}
		fewest, e := jam.Fewest(j)
		a.is("Fewest", e, want, len(fewest) == 0)
		keys, e := jam.Keys(j)
		a.is("Keys", e, want, len(keys) == 0)
		locks, e := jam.Locks(j)
		a.is("Locks", e, want, len(locks) == 0)
		for _, l := range [][][]int{nil, lists(nil), make([][]int, 13), lists(list(0), list(0))} {
			n, e := jam.CheckApart(j, l)
			a.is("CheckApart", e, want, n == 0)
		}
		apart, e := jam.Apart(j)
		a.is("Apart", e, want, len(apart) == 0)
	}
}

// Keys and locks are strictly increasing lists of logs.
func TestErrorOfLogs(t *testing.T) { // P6.2, P6.4
	for _, x := range []struct {
		j api.Jam
		l [][]int
	}{
		{jamJ(), lists(list(-1), list(5), list(0, 5), list(-1, 0), list(0, 0), list(1, 1), list(1, 0), list(0, 2, 1), list(0, 1, 1), list(3, 4, 3), list(4, 4, 5), list(math.MinInt), list(math.MaxInt), list(0, math.MaxInt), upTo(6), upTo(100))},
		{pile(all(0)), lists(list(1), list(-1), list(0, 0), list(0, 1), list(64), list(16))},
		{pile(all()), lists(list(1), list(-1), list(0, 0))},
		{selves(12, all), lists(list(12), list(-1), list(11, 11), list(11, 0), upTo(13), make([]int, 13))},
	} {
		for _, l := range x.l {
			answers{t, x.j}.ofLogs(l, api.ErrArg)
		}
	}
}

// A log is one of the jam.
func TestErrorOfLog(t *testing.T) { // P6.3, P6.6
	for _, j := range []api.Jam{jamJ(), jamT(), pile(all()), pile(some()), knot(12), selves(12, all)} {
		for _, log := range list(-1, len(j.Logs), len(j.Logs)+1, 16, 64, math.MinInt, math.MaxInt) {
			answers{t, j}.ofLog(log, api.ErrArg)
		}
	}
}

func TestWaves(t *testing.T) { // P6.2, P6.4
	for i, x := range []struct {
		j     api.Jam
		keys  []int
		waves []int
	}{
		// the examples of the chapter
		{jamJ(), list(0), list(0, 1, 1, 2, 1)},
		{jamJ(), nil, list(-1, -1, -1, -1, 1)},
		{jamJ(), list(3), list(-1, -1, 1, 0, 1)},
		{jamJ(), list(2, 3), list(-1, -1, 0, 0, 1)},
		// one log
		{pile(all()), nil, list(1)},
		{pile(all()), list(0), list(0)},
		{pile(some()), nil, list(-1)},
		{pile(some()), list(0), list(0)},
		{pile(all(0)), nil, list(-1)},
		{pile(all(0)), list(0), list(0)},
		{pile(some(0)), nil, list(-1)},
		{pile(some(0)), list(0), list(0)},
		// all logs as keys
		{jamJ(), upTo(5), again(5, 0)},
		{knot(12), upTo(12), again(12, 0)},
		{row(12, all()), upTo(12), again(12, 0)},
		// wave by wave, whatever the order of the logs
		{row(12, all()), nil, list(1, 2, 3, 4, 5, 6, 7, 8, 9, 10, 11, 12)},
		{row(12, all()), list(5), list(1, 2, 3, 4, 5, 0, 1, 2, 3, 4, 5, 6)},
		{row(12, some()), nil, again(12, -1)},
		{row(12, some()), list(4), list(-1, -1, -1, -1, 0, 1, 2, 3, 4, 5, 6, 7)},
		{row(12, some()), list(0), upTo(12)},
		{ring(12, all), list(0), list(0, 11, 10, 9, 8, 7, 6, 5, 4, 3, 2, 1)},
		{ring(12, some), list(11), list(11, 10, 9, 8, 7, 6, 5, 4, 3, 2, 1, 0)},
		{ring(12, all), nil, again(12, -1)},
		{pile(all(1), all(2), all()), nil, list(3, 2, 1)},
		{pile(some(1), some(2), all()), nil, list(3, 2, 1)},
		// all of those that hold it, or some
		{pile(all(), all(0), all(0, 1), all(0, 1, 2)), nil, list(1, 2, 3, 4)},
		{pile(all(), all(0), some(0, 1), some(1, 2)), nil, list(1, 2, 2, 3)},
		{pile(all(), some(), all(0, 1), some(0, 1)), nil, list(1, -1, -1, 2)},
		{pile(all(), some(), all(0, 1), some(0, 1)), list(1), list(1, 0, 2, 1)},
		{pile(some(1, 2), all(), some()), nil, list(2, 1, -1)},
		{pile(some(1, 2), some(), all()), nil, list(2, -1, 1)},
		{pile(all(1, 2), all(), some()), nil, list(-1, 1, -1)},
		{pile(all(1, 2), some(), all()), nil, list(-1, -1, 1)},
		// a log that holds itself, and others
		{pile(some(0, 1), all()), nil, list(2, 1)},
		{pile(all(0, 1), all()), nil, list(-1, 1)},
		{pile(all(0, 1), all()), list(0), list(0, 1)},
		// not enough keys
		{knot(4), list(0, 2), list(0, -1, 0, -1)},
		{knot(4), list(0, 1, 2), list(0, 0, 0, 1)},
		{selves(12, all), but(upTo(12), 7), list(0, 0, 0, 0, 0, 0, 0, -1, 0, 0, 0, 0)},
		{selves(12, some), but(upTo(12), 11), list(0, 0, 0, 0, 0, 0, 0, 0, 0, 0, 0, -1)},
	} {
		if got, e := jam.Waves(x.j, x.keys); !slices.Equal(got, x.waves) || e != api.OK {
			t.Errorf("%d: Waves(%v, %v) = %v, %d, want %v", i, x.j, x.keys, got, e, x.waves)
		}
		var stays []int
		want, none := api.ErrJam, api.OK
		for log, wave := range x.waves {
			if wave == -1 {
				stays = append(stays, log)
			}
		}
		if len(stays) == 0 {
			want, none = api.OK, api.ErrNone
		}
		if e := jam.CheckKeys(x.j, x.keys); e != want {
			t.Errorf("%d: CheckKeys(%v, %v) = %d, want %d", i, x.j, x.keys, e, want)
		}
		if got, e := jam.Stays(x.j, x.keys); !slices.Equal(got, stays) || e != none {
			t.Errorf("%d: Stays(%v, %v) = %v, %d, want %v, %d", i, x.j, x.keys, got, e, stays, none)
		}
	}
}

// known is a jam with all that its tight keys and tight locks tell; a need of -1 is a log that stays even if all others are keys.
type known struct {
	j      api.Jam
	keys   [][]int
	fewest []int
	kinds  []int
	locks  [][]int
	apart  int
	need   []int
}

// allButOne is lists of so many logs without one each, in lexicographic order.
func allButOne(many int) [][]int {
	var l [][]int
	for i := range many {
		l = append(l, but(upTo(many), many-1-i))
	}
	return l
}

// eachWith is lists of two logs: each one of so many, and a later one.
func eachWith(many, later int) [][]int {
	var l [][]int
	for i := range many {
		l = append(l, list(i, later))
	}
	return l
}

// pairs is all lists of two of so many logs, in lexicographic order.
func pairs(many int) [][]int {
	var l [][]int
	for one := range many {
		for two := one + 1; two < many; two++ {
			l = append(l, list(one, two))
		}
	}
	return l
}

func jams() []known {
	return []known{
		// the examples of the chapter
		{jamJ(), lists(list(0), list(1)), list(0), list(1, 1, 0, 0, 0), lists(list(0, 1)), 1, list(1, 1, 1, 1, 0)},
		{jamT(), lists(list(0, 1), list(0, 2), list(1, 2)), list(0, 1), list(1, 1, 1), lists(list(0, 1), list(0, 2), list(1, 2)), 1, list(2, 2, 2)},
		// one log
		{pile(all()), lists(nil), nil, list(0), nil, 0, list(0)},
		{pile(some()), singles(1), list(0), list(2), singles(1), 1, list(-1)},
		{pile(all(0)), singles(1), list(0), list(2), singles(1), 1, list(-1)},
		{pile(some(0)), singles(1), list(0), list(2), singles(1), 1, list(-1)},
		// no key, no lock
		{row(12, all()), lists(nil), nil, again(12, 0), nil, 0, again(12, 0)},
		{made(12, func(int) api.JamLog { return all() }), lists(nil), nil, again(12, 0), nil, 0, again(12, 0)},
		{pile(some(0, 1), some(1, 2), all()), lists(nil), nil, again(3, 0), nil, 0, again(3, 0)},
		// all logs but one
		{pile(all(1), all(0)), singles(2), list(0), list(1, 1), lists(list(0, 1)), 1, list(1, 1)},
		{knot(12), allButOne(12), upTo(11), again(12, 1), pairs(12), 6, again(12, 11)},
		{knot(11), allButOne(11), upTo(10), again(11, 1), pairs(11), 5, again(11, 10)},
		// all logs
		{selves(12, all), lists(upTo(12)), upTo(12), again(12, 2), singles(12), 12, again(12, -1)},
		{made(12, func(int) api.JamLog { return some() }), lists(upTo(12)), upTo(12), again(12, 2), singles(12), 12, again(12, -1)},
		{made(12, func(i int) api.JamLog { return all(but(upTo(12), 11-i)...) }), lists(upTo(12)), upTo(12), again(12, 2), singles(12), 12, again(12, -1)},
		// a lock of all logs
		{ring(12, all), singles(12), list(0), again(12, 1), lists(upTo(12)), 1, again(12, 1)},
		{ring(12, some), singles(12), list(0), again(12, 1), lists(upTo(12)), 1, again(12, 1)},
		{made(12, func(i int) api.JamLog { return some(but(upTo(12), i)...) }), singles(12), list(0), again(12, 1), lists(upTo(12)), 1, again(12, 1)},
		{made(12, func(int) api.JamLog { return some(upTo(12)...) }), singles(12), list(0), again(12, 1), lists(upTo(12)), 1, again(12, 1)},
		// one log that frees all
		{row(12, some()), singles(1), list(0), append(list(2), again(11, 0)...), singles(1), 1, append(list(-1), again(11, 1)...)},
		{pile(some(1, 3), all(2), some(1), all(0, 2)), lists(list(1), list(2)), list(1), list(0, 1, 1, 0), lists(list(1, 2)), 1, again(4, 1)},
		// tight keys that are not the fewest ones, before them or behind
		{star(4, 0), lists(list(0), list(1, 2, 3)), list(0), list(2, 0, 0, 0), lists(list(0, 1), list(0, 2), list(0, 3)), 1, list(3, 1, 1, 1)},
		{star(4, 3), lists(list(0, 1, 2), list(3)), list(3), list(0, 0, 0, 2), lists(list(0, 3), list(1, 3), list(2, 3)), 1, list(1, 1, 1, 3)},
		{star(12, 11), lists(upTo(11), list(11)), list(11), append(again(11, 0), 2), eachWith(11, 11), 1, append(again(11, 1), 11)},
		// the first lock hides two that are apart
		{pile(all(1, 2), all(0, 3), all(0), all(1)), lists(list(0, 1), list(0, 3), list(1, 2)), list(0, 1), again(4, 1), lists(list(0, 1), list(0, 2), list(1, 3)), 2, list(2, 2, 1, 1)},
		// two locks apart
		{pile(all(1), all(0), some(3), all(2)), lists(list(0, 2), list(0, 3), list(1, 2), list(1, 3)), list(0, 2), again(4, 1), lists(list(0, 1), list(2, 3)), 2, again(4, 1)},
		{pile(some(3), all(2), some(1), some(0)), lists(list(0, 1), list(0, 2), list(1, 3), list(2, 3)), list(0, 1), again(4, 1), lists(list(0, 3), list(1, 2)), 2, again(4, 1)},
		// fewer locks apart than keys: a circle of five pairs
		{made(5, func(i int) api.JamLog { return all(min((i+1)%5, (i+4)%5), max((i+1)%5, (i+4)%5)) }), lists(list(0, 1, 3), list(0, 2, 3), list(0, 2, 4), list(1, 2, 4), list(1, 3, 4)), list(0, 1, 3), again(5, 1), lists(list(0, 1), list(0, 4), list(1, 2), list(2, 3), list(3, 4)), 2, again(5, 2)},
		// logs that hold themselves
		{pile(all(0), some(1), all(0, 1)), lists(list(0, 1)), list(0, 1), list(2, 2, 0), singles(2), 2, list(-1, -1, 2)},
		{pile(some(0, 1), all(2), all(1)), lists(list(1), list(2)), list(1), list(0, 1, 1), lists(list(1, 2)), 1, list(1, 1, 1)},
		{pile(all(0, 1), all(0)), singles(1), list(0), list(2, 0), singles(1), 1, list(-1, 1)},
		{pile(some(0), some(0, 1)), singles(1), list(0), list(2, 0), singles(1), 1, list(-1, 1)},
		// a log that one key frees, and one that needs all that hold it
		{pile(some(1, 2, 3), some(), some(), some()), lists(list(1, 2, 3)), list(1, 2, 3), list(0, 2, 2, 2), lists(list(1), list(2), list(3)), 3, list(1, -1, -1, -1)},
		{pile(all(1, 2, 3), some(), some(), some()), lists(list(1, 2, 3)), list(1, 2, 3), list(0, 2, 2, 2), lists(list(1), list(2), list(3)), 3, list(3, -1, -1, -1)},
		// a lock behind a lock is none that is tight
		{pile(some(), all(0), some(1, 3), some(2)), lists(list(0)), list(0), list(2, 0, 0, 0), singles(1), 1, list(-1, 1, 1, 1)},
	}
}

func TestKeys(t *testing.T) { // P6.3
	for i, x := range jams() {
		if got, e := jam.Keys(x.j); !same(got, x.keys) || e != api.OK {
			t.Errorf("%d: Keys(%v) = %v, %d, want %v", i, x.j, got, e, x.keys)
		}
		if got, e := jam.Fewest(x.j); !slices.Equal(got, x.fewest) || e != api.OK {
			t.Errorf("%d: Fewest(%v) = %v, %d, want %v", i, x.j, got, e, x.fewest)
		}
		for log, want := range x.kinds {
			if got, e := jam.Kind(x.j, log); got != want || e != api.OK {
				t.Errorf("%d: Kind(%v, %d) = %d, %d, want %d", i, x.j, log, got, e, want)
			}
		}
		for _, keys := range x.keys {
			if e := jam.CheckKeys(x.j, keys); e != api.OK {
				t.Errorf("%d: CheckKeys(%v, %v) = %d", i, x.j, keys, e)
			}
			for _, log := range keys {
				if e := jam.CheckKeys(x.j, but(keys, log)); e != api.ErrJam {
					t.Errorf("%d: CheckKeys(%v, %v) = %d, want ErrJam", i, x.j, but(keys, log), e)
				}
			}
		}
	}
}

func TestLocks(t *testing.T) { // P6.4, P6.5
	for i, x := range jams() {
		if got, e := jam.Locks(x.j); !same(got, x.locks) || e != api.OK {
			t.Errorf("%d: Locks(%v) = %v, %d, want %v", i, x.j, got, e, x.locks)
		}
		for _, lock := range x.locks {
			if e := jam.CheckLock(x.j, lock); e != api.OK {
				t.Errorf("%d: CheckLock(%v, %v) = %d", i, x.j, lock, e)
			}
			for _, log := range lock {
				if e := jam.CheckLock(x.j, but(lock, log)); e != api.ErrJam {
					t.Errorf("%d: CheckLock(%v, %v) = %d, want ErrJam", i, x.j, but(lock, log), e)
				}
			}
		}
		apart, e := jam.Apart(x.j)
		if many, f := jam.CheckApart(x.j, apart); many != x.apart || len(apart) != many || e != api.OK || f != api.OK {
			t.Errorf("%d: Apart(%v) = %v, %d: CheckApart says %d, %d, want %d", i, x.j, apart, e, many, f, x.apart)
		}
	}
}

func TestCheckLock(t *testing.T) { // P6.4
	for i, x := range []struct {
		j    api.Jam
		lock []int
		e    api.Errno
	}{
		// the examples of the chapter
		{jamJ(), list(0, 1), api.OK},
		{jamJ(), list(2, 3), api.ErrJam},
		{jamJ(), list(0, 1, 2, 3), api.OK},
		{jamJ(), list(4), api.ErrJam},
		// none, one log, all logs
		{jamJ(), nil, api.ErrJam},
		{jamJ(), list(0), api.ErrJam},
		{jamJ(), upTo(5), api.ErrJam},
		{jamJ(), list(0, 1, 2), api.ErrJam}, // the log 3 holds the log 2, too
		{jamJ(), list(0, 1, 3), api.ErrJam},
		{jamT(), upTo(3), api.OK},
		{knot(12), upTo(12), api.OK},
		{knot(12), list(3, 11), api.OK},
		{knot(12), list(11), api.ErrJam},
		{pile(all()), nil, api.ErrJam},
		{pile(all()), list(0), api.ErrJam},
		{pile(some()), nil, api.ErrJam},
		{pile(some()), list(0), api.OK},
		{pile(all(0)), list(0), api.OK},
		{pile(some(0)), list(0), api.OK},
		// some holder of a log of the Kind JamAll, all of one of the Kind JamSome
		{pile(all(1, 2), some(), some()), list(0, 1), api.OK},
		{pile(all(1, 2), some(), some()), list(0, 2), api.OK},
		{pile(all(1, 2), some(), some()), list(0), api.ErrJam},
		{pile(all(1, 2), some(), some()), list(1, 2), api.OK},
		{pile(some(1, 2), some(), some()), list(0, 1), api.ErrJam},
		{pile(some(1, 2), some(), some()), list(0, 2), api.ErrJam},
		{pile(some(1, 2), some(), some()), list(0, 1, 2), api.OK},
		{pile(some(0, 1), some()), list(0), api.ErrJam},
		{pile(all(0, 1), some()), list(0), api.OK},
		// the last one, or the first one, is not held
		{pile(some(), some(), all()), list(0, 1, 2), api.ErrJam},
		{pile(all(), some(), some()), list(0, 1, 2), api.ErrJam},
	} {
		if e := jam.CheckLock(x.j, x.lock); e != x.e {
			t.Errorf("%d: CheckLock(%v, %v) = %d, want %d", i, x.j, x.lock, e, x.e)
		}
	}
}

func TestCheckApart(t *testing.T) { // P6.5
	two := pile(all(1), all(0), some(3), all(2))
	for i, x := range []struct {
		j     api.Jam
		locks [][]int
		want  int
		e     api.Errno
	}{
		// the examples of the chapter
		{jamT(), lists(list(0, 1)), 1, api.OK},
		{jamT(), lists(list(0, 1), list(1, 2)), 0, api.ErrHave},
		// none, some, 12
		{jamT(), nil, 0, api.OK},
		{pile(all()), nil, 0, api.OK},
		{two, lists(list(0, 1), list(2, 3)), 2, api.OK},
		{two, lists(list(2, 3), list(0, 1)), 2, api.OK},
		{two, lists(list(2, 3)), 1, api.OK},
		{two, lists(upTo(4)), 1, api.OK},
		{knot(12), lists(list(0, 11), list(1, 5, 7), list(2, 3, 4, 6)), 3, api.OK},
		{selves(12, all), singles(12), 12, api.OK},
		{selves(12, some), singles(12), 12, api.OK},
		{selves(12, all), lists(upTo(12)), 1, api.OK},
		// a log in two of them
		{jamT(), lists(list(0, 2), list(1, 2)), 0, api.ErrHave},
		{jamT(), lists(list(0, 1), list(0, 1)), 0, api.ErrHave},
		{jamT(), lists(list(0, 1), upTo(3)), 0, api.ErrHave},
		{two, lists(list(0, 1), list(2, 3), list(0, 1)), 0, api.ErrHave},
		{two, lists(list(0, 1), list(2, 3), list(2, 3)), 0, api.ErrHave},
		{selves(12, all), append(singles(11), list(10, 11)), 0, api.ErrHave},
		{selves(12, all), append(singles(11), list(0)), 0, api.ErrHave},
		{selves(12, all), slices.Repeat(singles(1), 12), 0, api.ErrHave},
		// the error of CheckLock for the first one that has one
		{two, lists(list(0, 1), list(2)), 0, api.ErrJam},
		{two, lists(nil), 0, api.ErrJam},
		{two, lists(list(0, 1), nil, list(2, 3)), 0, api.ErrJam},
		{two, lists(list(0, 1), list(2, 4)), 0, api.ErrArg},
		{two, lists(list(0, 1), list(3, 2)), 0, api.ErrArg},
		{two, lists(list(0, 1), list(2, 2)), 0, api.ErrArg},
		{two, lists(list(-1), list(2, 3)), 0, api.ErrArg},
		{two, lists(list(0), list(9)), 0, api.ErrJam},
		{two, lists(list(0, 1), list(9), list(0)), 0, api.ErrArg},
		{two, lists(list(0, 1), nil, list(9)), 0, api.ErrJam},
		{two, append(slices.Repeat(lists(list(0, 1)), 11), list(9)), 0, api.ErrArg},
		// too many
		{two, slices.Repeat(lists(list(0, 1)), 12), 0, api.ErrHave},
		{two, slices.Repeat(lists(list(0, 1)), 13), 0, api.ErrMany},
		{two, make([][]int, 12), 0, api.ErrJam},
		{two, make([][]int, 13), 0, api.ErrMany},
		{two, slices.Repeat(lists(list(9)), 13), 0, api.ErrMany},
		{selves(12, all), append(singles(12), list(0)), 0, api.ErrMany},
		{pile(all()), make([][]int, 1000), 0, api.ErrMany},
		// the order of errors
		{two, lists(list(0, 1), list(0, 1), list(0)), 0, api.ErrJam},
		{two, lists(list(0, 1), list(0, 1), list(4)), 0, api.ErrArg},
	} {
		if got, e := jam.CheckApart(x.j, x.locks); got != x.want || e != x.e {
			t.Errorf("%d: CheckApart(%v, %v) = %d, %d, want %d, %d", i, x.j, x.locks, got, e, x.want, x.e)
		}
	}
}

func TestNeed(t *testing.T) { // P6.6
	for i, x := range jams() {
		for log, want := range x.need {
			e := api.OK
			if want == -1 {
				want, e = 0, api.ErrNone
			}
			if got, f := jam.Need(x.j, log); got != want || f != e {
				t.Errorf("%d: Need(%v, %d) = %d, %d, want %d, %d", i, x.j, log, got, f, want, e)
			}
		}
	}
}
