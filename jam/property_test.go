package jam_test

import (
	"cmp"
	"fmt"
	"iter"
	"math"
	"math/bits"
	"math/rand/v2"
	"reflect"
	"slices"
	"sync"
	"testing"

	"peavey/api"
	"peavey/jam"
)

// The definitions of the chapter, word for word, with nothing that the package computes. A set of logs is a number whose bits they are.

// logsOf returns the logs of a set, increasing.
func logsOf(set int) []int {
	var l []int
	for log := range 16 {
		if set>>log&1 == 1 {
			l = append(l, log)
		}
	}
	return l
}

// setOf returns the set of logs.
func setOf(logs []int) int {
	set := 0
	for _, log := range logs {
		set |= 1 << log
	}
	return set
}

// allOf returns the set of all logs of a jam.
func allOf(j api.Jam) int { return 1<<len(j.Logs) - 1 }

// isFree reports whether a log is free when a set of logs is gone.
func isFree(x api.JamLog, gone int) bool {
	by := setOf(x.By)
	if x.Kind == api.JamAll {
		return by&gone == by
	}
	return by&gone != 0
}

// wavesOf returns in which wave each log goes by a set of keys, -1 if it stays.
func wavesOf(j api.Jam, keys int) []int {
	waves := again(len(j.Logs), -1)
	for _, key := range logsOf(keys) {
		waves[key] = 0
	}
	gone := keys
	for wave := 1; wave <= len(j.Logs); wave++ {
		free := 0
		for log, x := range j.Logs {
			if gone>>log&1 == 0 && isFree(x, gone) {
				free |= 1 << log
				waves[log] = wave
			}
		}
		gone |= free
	}
	return waves
}

// stayOf returns the set of the logs that stay by a set of keys.
func stayOf(j api.Jam, keys int) int {
	stay := 0
	for log, wave := range wavesOf(j, keys) {
		if wave == -1 {
			stay |= 1 << log
		}
	}
	return stay
}

// staysOf returns for each set of keys the set of the logs that stay.
func staysOf(j api.Jam) []int {
	var stays []int
	for keys := range allOf(j) + 1 {
		stays = append(stays, stayOf(j, keys))
	}
	return stays
}

// inOrder returns the lists of sets, in lexicographic order.
func inOrder(sets []int) [][]int {
	var l [][]int
	for _, set := range sets {
		l = append(l, logsOf(set))
	}
	slices.SortFunc(l, slices.Compare[[]int])
	return l
}

// tightKeysOf returns all tight keys, in lexicographic order, from what stays by each set of keys.
func tightKeysOf(stays []int) [][]int {
	var tight []int
	for keys, stay := range stays {
		leftOut := func(log int) bool { return stays[keys&^(1<<log)] == 0 }
		if stay == 0 && !slices.ContainsFunc(logsOf(keys), leftOut) {
			tight = append(tight, keys)
		}
	}
	return inOrder(tight)
}

// fewestOf returns all lists of the fewest keys, in lexicographic order.
func fewestOf(stays []int) [][]int {
	many := math.MaxInt
	var fewest []int
	for keys, stay := range stays {
		size := bits.OnesCount(uint(keys))
		if stay != 0 || size > many {
			continue
		}
		if size < many {
			many, fewest = size, nil
		}
		fewest = append(fewest, keys)
	}
	return inOrder(fewest)
}

// kindOf returns how often a log is in lists of the fewest keys.
func kindOf(fewest [][]int, log int) int {
	in := 0
	for _, keys := range fewest {
		if slices.Contains(keys, log) {
			in++
		}
	}
	switch in {
	case 0:
		return api.JamNever
	case len(fewest):
		return api.JamAlways
	}
	return api.JamMay
}

// needOf returns how many keys a log needs, -1 if it stays even if all others are keys.
func needOf(stays []int, log int) int {
	need := -1
	for keys, stay := range stays {
		if size := bits.OnesCount(uint(keys)); keys>>log&1 == 0 && stay>>log&1 == 0 && (need < 0 || size < need) {
			need = size
		}
	}
	return need
}

// isLock reports whether a set of logs is a lock.
func isLock(j api.Jam, lock int) bool {
	for _, log := range logsOf(lock) {
		by := setOf(j.Logs[log].By)
		switch {
		case j.Logs[log].Kind == api.JamAll && by&lock == 0:
			return false
		case j.Logs[log].Kind == api.JamSome && by&lock != by:
			return false
		}
	}
	return lock != 0
}

// locksOf returns all locks.
func locksOf(j api.Jam) []int {
	var locks []int
	for lock := range allOf(j) + 1 {
		if isLock(j, lock) {
			locks = append(locks, lock)
		}
	}
	return locks
}

// tightLocksOf returns all tight ones of locks, in lexicographic order.
func tightLocksOf(locks []int) [][]int {
	var tight []int
	for _, lock := range locks {
		fewer := func(other int) bool { return other != lock && other&lock == other }
		if !slices.ContainsFunc(locks, fewer) {
			tight = append(tight, lock)
		}
	}
	return inOrder(tight)
}

// apartOf returns how many locks, of those within a set of logs, can be apart at most: the first log of the set is in none of them, or in one.
func apartOf(locks []int, set int) int {
	known := map[int]int{0: 0}
	var most func(set int) int
	most = func(set int) int {
		if many, found := known[set]; found {
			return many
		}
		first := set & -set
		many := most(set &^ first)
		for _, lock := range locks {
			if lock&first != 0 && lock&set == lock {
				many = max(many, 1+most(set&^lock))
			}
		}
		known[set] = many
		return many
	}
	return most(set)
}

// Jams to test.

// everyJam yields all jams of so many logs.
func everyJam(many int) iter.Seq[api.Jam] {
	return func(yield func(api.Jam) bool) {
		each := 2 << many
		total := 1
		for range many {
			total *= each
		}
		for number := range total {
			j := made(many, func(log int) api.JamLog {
				x := number
				for range log {
					x /= each
				}
				return api.JamLog{Kind: x % 2, By: logsOf(x % each / 2)}
			})
			if !yield(j) {
				return
			}
		}
	}
}

// tiny yields all jams of up to three logs.
func tiny() iter.Seq[api.Jam] {
	return func(yield func(api.Jam) bool) {
		for many := 1; many <= 3; many++ {
			for j := range everyJam(many) {
				if !yield(j) {
					return
				}
			}
		}
	}
}

// randomJam returns a jam of so many logs, with few or many that hold each.
func randomJam(r *rand.Rand, many int) api.Jam {
	holders, kind, selves := 1+r.IntN(4), r.IntN(5), r.IntN(10)
	return made(many, func(log int) api.JamLog {
		var by []int
		for holder := range many {
			if r.IntN(many) < holders && (holder != log || selves == 0) {
				by = append(by, holder)
			}
		}
		if r.IntN(4) < kind {
			return all(by...)
		}
		return some(by...)
	})
}

// pairedJam returns a jam in which logs hold one another: each pair is a lock of two.
func pairedJam(r *rand.Rand, many int) api.Jam {
	holds := map[[2]int]bool{}
	for one := range many {
		for two := range one {
			holds[[2]int{one, two}] = r.IntN(many) < 2
		}
	}
	return made(many, func(log int) api.JamLog {
		var by []int
		for holder := range many {
			if holds[[2]int{max(log, holder), min(log, holder)}] {
				by = append(by, holder)
			}
		}
		return all(by...)
	})
}

// random yields so many jams of logs from least to most.
func random(seed uint64, times, least, most int) iter.Seq[api.Jam] {
	return func(yield func(api.Jam) bool) {
		r := rand.New(rand.NewPCG(seed, 6))
		for i := range times {
			many := least + r.IntN(most-least+1)
			j := randomJam(r, many)
			if i%4 == 3 {
				j = pairedJam(r, many)
			}
			if !yield(j) {
				return
			}
		}
	}
}

// small yields all jams of up to three logs, and some of up to seven.
func small() iter.Seq[api.Jam] {
	return func(yield func(api.Jam) bool) {
		for j := range tiny() {
			if !yield(j) {
				return
			}
		}
		for j := range random(1, 1200, 4, 7) {
			if !yield(j) {
				return
			}
		}
	}
}

// large yields the jams that are known, and some of 8 to 12 logs.
func large() iter.Seq[api.Jam] {
	return func(yield func(api.Jam) bool) {
		for _, x := range jams() {
			if !yield(x.j) {
				return
			}
		}
		for j := range random(2, 60, 8, 11) {
			if !yield(j) {
				return
			}
		}
		for j := range random(3, 25, 12, 12) {
			if !yield(j) {
				return
			}
		}
	}
}

// anyJam yields the jams of small and of large.
func anyJam() iter.Seq[api.Jam] {
	return func(yield func(api.Jam) bool) {
		for j := range small() {
			if !yield(j) {
				return
			}
		}
		for j := range large() {
			if !yield(j) {
				return
			}
		}
	}
}

// The functions, for arguments that are right.

func must[T any](t *testing.T, x T, e api.Errno) T {
	t.Helper()
	if e != api.OK {
		t.Fatalf("error %d", e)
	}
	return x
}

func waves(t *testing.T, j api.Jam, keys []int) []int {
	t.Helper()
	x, e := jam.Waves(j, keys)
	return must(t, x, e)
}

func fewest(t *testing.T, j api.Jam) []int {
	t.Helper()
	x, e := jam.Fewest(j)
	return must(t, x, e)
}

func tightKeys(t *testing.T, j api.Jam) [][]int {
	t.Helper()
	x, e := jam.Keys(j)
	return must(t, x, e)
}

func tightLocks(t *testing.T, j api.Jam) [][]int {
	t.Helper()
	x, e := jam.Locks(j)
	return must(t, x, e)
}

func apart(t *testing.T, j api.Jam) [][]int {
	t.Helper()
	x, e := jam.Apart(j)
	return must(t, x, e)
}

// need returns what Need does, -1 with ErrNone.
func need(t *testing.T, j api.Jam, log int) int {
	t.Helper()
	x, e := jam.Need(j, log)
	if e == api.ErrNone {
		return x - 1
	}
	return must(t, x, e)
}

// Each function against its definition.

func TestWavesAgainstDefinition(t *testing.T) { // P6.2, P6.4
	for j := range anyJam() {
		step := max(1, allOf(j)/500)
		for keys := 0; keys <= allOf(j); keys += step {
			l := logsOf(keys)
			if got, want := waves(t, j, l), wavesOf(j, keys); !slices.Equal(got, want) {
				t.Fatalf("Waves(%v, %v) = %v, want %v", j, l, got, want)
			}
			stay := stayOf(j, keys)
			freed, none := api.OK, api.ErrNone
			if stay != 0 {
				freed, none = api.ErrJam, api.OK
			}
			if e := jam.CheckKeys(j, l); e != freed {
				t.Fatalf("CheckKeys(%v, %v) = %d, want %d", j, l, e, freed)
			}
			if got, e := jam.Stays(j, l); !slices.Equal(got, logsOf(stay)) || e != none {
				t.Fatalf("Stays(%v, %v) = %v, %d, want %v, %d", j, l, got, e, logsOf(stay), none)
			}
		}
	}
}

func TestKeysAgainstDefinition(t *testing.T) { // P6.3, P6.6, G6
	for j := range anyJam() {
		stays := staysOf(j)
		if got, want := tightKeys(t, j), tightKeysOf(stays); !same(got, want) {
			t.Fatalf("Keys(%v) = %v, want %v", j, got, want)
		}
		all := fewestOf(stays)
		if got := fewest(t, j); !slices.Equal(got, all[0]) {
			t.Fatalf("Fewest(%v) = %v, want %v", j, got, all[0])
		}
		for log := range j.Logs {
			if got, e := jam.Kind(j, log); must(t, got, e) != kindOf(all, log) {
				t.Fatalf("Kind(%v, %d) = %d, want %d", j, log, got, kindOf(all, log))
			}
			if got, want := need(t, j, log), needOf(stays, log); got != want {
				t.Fatalf("Need(%v, %d) = %d, want %d", j, log, got, want)
			}
		}
	}
}

func TestLocksAgainstDefinition(t *testing.T) { // P6.4, P6.5, G6
	for j := range anyJam() {
		locks := locksOf(j)
		if got, want := tightLocks(t, j), tightLocksOf(locks); !same(got, want) {
			t.Fatalf("Locks(%v) = %v, want %v", j, got, want)
		}
		l := apart(t, j)
		if many, e := jam.CheckApart(j, l); must(t, many, e) != len(l) || many != apartOf(locks, allOf(j)) {
			t.Fatalf("Apart(%v) = %v, CheckApart says %d, want %d", j, l, many, apartOf(locks, allOf(j)))
		}
		step := max(1, allOf(j)/500)
		for lock := 0; lock <= allOf(j); lock += step {
			want := api.OK
			if !isLock(j, lock) {
				want = api.ErrJam
			}
			if e := jam.CheckLock(j, logsOf(lock)); e != want {
				t.Fatalf("CheckLock(%v, %v) = %d, want %d", j, logsOf(lock), e, want)
			}
		}
	}
}

// checkApart returns what CheckApart does for lists of logs, strictly increasing, up to 12.
func checkApart(j api.Jam, l [][]int) (int, api.Errno) {
	taken, twice := 0, false
	for _, lock := range l {
		set := setOf(lock)
		if !isLock(j, set) {
			return 0, api.ErrJam
		}
		twice = twice || taken&set != 0
		taken |= set
	}
	if twice {
		return 0, api.ErrHave
	}
	return len(l), api.OK
}

func TestCheckApartAgainstDefinition(t *testing.T) { // P6.5
	r := rand.New(rand.NewPCG(65, 6))
	for j := range anyJam() {
		locks := locksOf(j)
		for range 5 {
			var l [][]int
			for range r.IntN(4) {
				set := r.IntN(allOf(j) + 1)
				if len(locks) > 0 && r.IntN(8) > 0 {
					set = locks[r.IntN(len(locks))]
				}
				l = append(l, logsOf(set))
			}
			got, e := jam.CheckApart(j, l)
			if want, f := checkApart(j, l); got != want || e != f {
				t.Fatalf("CheckApart(%v, %v) = %d, %d, want %d, %d", j, l, got, e, want, f)
			}
		}
	}
}

// The properties.

// meets reports whether lists have a log in common.
func meets(one, two []int) bool {
	return setOf(one)&setOf(two) != 0
}

func TestEither(t *testing.T) { // P6.7
	for j := range small() {
		var locks [][]int
		for set := range allOf(j) + 1 {
			if jam.CheckLock(j, logsOf(set)) == api.OK {
				locks = append(locks, logsOf(set))
			}
		}
		for set := range allOf(j) + 1 {
			keys := logsOf(set)
			missed := slices.ContainsFunc(locks, func(lock []int) bool { return !meets(lock, keys) })
			if e := jam.CheckKeys(j, keys); (e == api.OK) == missed {
				t.Fatalf("CheckKeys(%v, %v) = %d, they miss a lock: %v", j, keys, e, missed)
			}
			stays, e := jam.Stays(j, keys)
			if e == api.ErrNone {
				continue
			}
			if f := jam.CheckLock(j, must(t, stays, e)); f != api.OK || meets(stays, keys) {
				t.Fatalf("%v stay in %v by %v, CheckLock says %d", stays, j, keys, f)
			}
		}
	}
}

// tightFor checks that each list has a log of each other one, and for each of its logs an other one with which it has no further one.
func tightFor(t *testing.T, j api.Jam, l, others [][]int) {
	t.Helper()
	for _, one := range l {
		for _, other := range others {
			if !meets(one, other) {
				t.Fatalf("%v: %v and %v have no log in common", j, one, other)
			}
		}
		for _, log := range one {
			if !slices.ContainsFunc(others, func(other []int) bool { return setOf(one)&setOf(other) == 1<<log }) {
				t.Fatalf("%v: the log %d of %v is too much beside %v", j, log, one, others)
			}
		}
	}
}

func TestTight(t *testing.T) { // P6.8
	for j := range anyJam() {
		keys, locks := tightKeys(t, j), tightLocks(t, j)
		tightFor(t, j, keys, locks)
		tightFor(t, j, locks, keys)
		if (len(keys) == 1 && len(keys[0]) == 0) != (len(locks) == 0) || len(keys) == 0 {
			t.Fatalf("%v: tight keys %v, tight locks %v", j, keys, locks)
		}
	}
}

// with returns a strictly increasing list with one log more.
func with(l []int, log int) []int {
	return logsOf(setOf(l) | 1<<log)
}

// noneLater checks that no log goes later by the second waves than by the first ones.
func noneLater(t *testing.T, j api.Jam, first, second []int) {
	t.Helper()
	for log, wave := range first {
		if wave >= 0 && (second[log] < 0 || second[log] > wave) {
			t.Fatalf("%v: waves %v, with more keys or holders %v", j, first, second)
		}
	}
}

func TestMore(t *testing.T) { // P6.9
	r := rand.New(rand.NewPCG(69, 6))
	for j := range small() {
		for set := range allOf(j) + 1 {
			keys := logsOf(set)
			w := waves(t, j, keys)
			for log := range j.Logs {
				noneLater(t, j, w, waves(t, j, with(keys, log)))
			}
			log, holder := r.IntN(len(j.Logs)), r.IntN(len(j.Logs))
			more := api.Jam{Logs: slices.Clone(j.Logs)}
			more.Logs[log].By = with(more.Logs[log].By, holder)
			if j.Logs[log].Kind == api.JamAll {
				noneLater(t, j, waves(t, more, keys), w)
			} else {
				noneLater(t, j, w, waves(t, more, keys))
			}
		}
	}
}

func TestApart(t *testing.T) { // P6.10
	for j := range anyJam() {
		l := apart(t, j)
		for _, keys := range tightKeys(t, j) {
			if len(keys) < len(l) {
				t.Fatalf("%v: %v are apart, but %v free the jam", j, l, keys)
			}
		}
	}
	for j := range small() {
		locks := locksOf(j)
		for set := range allOf(j) + 1 {
			if jam.CheckKeys(j, logsOf(set)) == api.OK && bits.OnesCount(uint(set)) < apartOf(locks, allOf(j)) {
				t.Fatalf("%v: the keys %v are fewer than locks that are apart", j, logsOf(set))
			}
		}
	}
}

func TestWaveAfter(t *testing.T) { // P6.11
	for j := range small() {
		for set := range allOf(j) + 1 {
			w := waves(t, j, logsOf(set))
			for log, x := range j.Logs {
				if set>>log&1 == 1 {
					continue
				}
				var by []int
				for _, holder := range x.By {
					wave := w[holder]
					if wave < 0 {
						wave = math.MaxInt - 1
					}
					by = append(by, wave)
				}
				after := 1
				switch {
				case x.Kind == api.JamAll && len(by) > 0:
					after = slices.Max(by) + 1
				case x.Kind == api.JamSome:
					after = slices.Min(append(by, math.MaxInt-1)) + 1
				}
				if after == math.MaxInt {
					after = -1
				}
				if w[log] != after {
					t.Fatalf("Waves(%v, %v) = %v: the log %d", j, logsOf(set), w, log)
				}
			}
		}
	}
}

// renamed returns the new names of logs, increasing.
func renamed(l, names []int) []int {
	var m []int
	for _, log := range l {
		m = append(m, names[log])
	}
	slices.Sort(m)
	return m
}

// allRenamed returns lists with the new names of logs, in lexicographic order.
func allRenamed(l [][]int, names []int) [][]int {
	var m [][]int
	for _, x := range l {
		m = append(m, renamed(x, names))
	}
	slices.SortFunc(m, slices.Compare[[]int])
	return m
}

func TestNamed(t *testing.T) { // P6.12
	r := rand.New(rand.NewPCG(612, 6))
	for j := range anyJam() {
		names := r.Perm(len(j.Logs))
		other := api.Jam{Logs: make([]api.JamLog, len(j.Logs))}
		for log, x := range j.Logs {
			other.Logs[names[log]] = api.JamLog{Kind: x.Kind, By: renamed(x.By, names)}
		}
		if got, want := tightKeys(t, other), allRenamed(tightKeys(t, j), names); !same(got, want) {
			t.Fatalf("Keys(%v) = %v, of %v want %v", other, got, j, want)
		}
		if got, want := tightLocks(t, other), allRenamed(tightLocks(t, j), names); !same(got, want) {
			t.Fatalf("Locks(%v) = %v, of %v want %v", other, got, j, want)
		}
		if got, want := len(apart(t, other)), len(apart(t, j)); got != want {
			t.Fatalf("Apart has %d in %v, %d in %v", got, other, want, j)
		}
	}
}

// moved returns logs that are named by so much more.
func moved(l []int, by int) []int {
	var m []int
	for _, log := range l {
		m = append(m, log+by)
	}
	return m
}

// beside returns two jams as one, the logs of the second one behind those of the first one.
func beside(one, two api.Jam) api.Jam {
	both := api.Jam{Logs: slices.Clone(one.Logs)}
	for _, x := range two.Logs {
		both.Logs = append(both.Logs, api.JamLog{Kind: x.Kind, By: moved(x.By, len(one.Logs))})
	}
	return both
}

func TestBeside(t *testing.T) { // P6.13
	next, stop := iter.Pull(random(613, 6000, 1, 5))
	defer stop()
	for one := range small() {
		two, found := next()
		if !found {
			t.Fatal("no more jams")
		}
		both := beside(one, two)
		want := slices.Concat(fewest(t, one), moved(fewest(t, two), len(one.Logs)))
		if got := fewest(t, both); !slices.Equal(got, want) {
			t.Fatalf("Fewest(%v) = %v, want %v", both, got, want)
		}
		var locks [][]int
		for _, lock := range tightLocks(t, two) {
			locks = append(locks, moved(lock, len(one.Logs)))
		}
		if got, want := tightLocks(t, both), append(tightLocks(t, one), locks...); !same(got, want) {
			t.Fatalf("Locks(%v) = %v, want %v", both, got, want)
		}
		if got, want := len(apart(t, both)), len(apart(t, one))+len(apart(t, two)); got != want {
			t.Fatalf("Apart(%v) has %d, want %d", both, got, want)
		}
	}
}

func TestNeeded(t *testing.T) { // P6.14
	for j := range anyJam() {
		w := waves(t, j, nil)
		for log, x := range j.Logs {
			n := need(t, j, log)
			if (n == 0) != (w[log] >= 0) {
				t.Fatalf("Need(%v, %d) = %d, without keys it goes in the wave %d", j, log, n, w[log])
			}
			most := len(x.By)
			if x.Kind == api.JamSome {
				most = min(most, 1)
			}
			if holds := slices.Contains(x.By, log); !holds && x.Kind == api.JamAll || !holds && most == 1 {
				if n < 0 || n > most {
					t.Fatalf("Need(%v, %d) = %d", j, log, n)
				}
			}
		}
	}
}

// The rules of DOC.md.

// results returns what all functions return for these arguments.
func results(j api.Jam, l []int, locks [][]int, log int) []any {
	var out []any
	add := func(x ...any) { out = append(out, x...) }
	add(jam.CheckJam(j))
	w, e := jam.Waves(j, l)
	add(w, e)
	add(jam.CheckKeys(j, l))
	few, e := jam.Fewest(j)
	add(few, e)
	keys, e := jam.Keys(j)
	add(keys, e)
	kind, e := jam.Kind(j, log)
	add(kind, e)
	add(jam.CheckLock(j, l))
	tight, e := jam.Locks(j)
	add(tight, e)
	stays, e := jam.Stays(j, l)
	add(stays, e)
	many, e := jam.CheckApart(j, locks)
	add(many, e)
	far, e := jam.Apart(j)
	add(far, e)
	n, e := jam.Need(j, log)
	add(n, e)
	return out
}

// copied returns a jam that shares no memory with another one.
func copied(j api.Jam) api.Jam {
	return made(len(j.Logs), func(log int) api.JamLog {
		return api.JamLog{Kind: j.Logs[log].Kind, By: slices.Clone(j.Logs[log].By)}
	})
}

// allCopied returns lists that share no memory with others.
func allCopied(l [][]int) [][]int {
	var m [][]int
	for _, x := range l {
		m = append(m, slices.Clone(x))
	}
	return m
}

// overwrite writes over all that a list reaches.
func overwrite(l []int) {
	for i := range l[:cap(l)] {
		l[:cap(l)][i] = -9
	}
}

func TestNothingSharedNorChanged(t *testing.T) { // R4, R9, R10
	for _, x := range jams() {
		j, l, locks := copied(x.j), upTo(len(x.j.Logs)/2), allCopied(x.locks)
		log := len(j.Logs) - 1
		want := results(j, l, locks, log)
		told := fmt.Sprint(want)
		for _, y := range results(j, l, locks, log) {
			switch y := y.(type) {
			case []int:
				overwrite(y)
			case [][]int:
				for i := range y {
					others := allCopied(y[i+1:])
					overwrite(y[i])
					if !same(y[i+1:], others) {
						t.Errorf("lists of %v share memory", x.j)
					}
				}
				clear(y[:cap(y)])
			}
		}
		if !reflect.DeepEqual(j, copied(x.j)) || !slices.Equal(l, upTo(len(x.j.Logs)/2)) || !same(locks, x.locks) {
			t.Errorf("arguments are changed: %v, %v, %v", j, l, locks)
		}
		results(jamJ(), list(3), lists(list(0, 1)), 2)
		results(api.Jam{}, nil, nil, 0)
		for range 3 {
			if got := results(j, l, locks, log); !reflect.DeepEqual(got, want) {
				t.Fatalf("another result: %v, not %v", got, want)
			}
		}
		// What is done with arguments changes no result.
		for i := range j.Logs {
			overwrite(j.Logs[i].By)
		}
		clear(j.Logs)
		overwrite(l)
		for _, lock := range locks {
			overwrite(lock)
		}
		if now := fmt.Sprint(want); now != told {
			t.Errorf("%s became %s", told, now)
		}
	}
}

// What is behind the end of a list that is an argument is neither read nor written.
func TestBehindTheEnd(t *testing.T) { // R4
	for _, x := range jams() {
		room := func(l []int) []int { return append(slices.Clone(l), -7, 99, -7)[:len(l)] }
		j := copied(x.j)
		for i := range j.Logs {
			j.Logs[i].By = room(j.Logs[i].By)
		}
		j.Logs = append(j.Logs, kind(9), all(-1))[:len(j.Logs)]
		var locks [][]int
		for _, lock := range x.locks {
			locks = append(locks, room(lock))
		}
		l := room(x.fewest)
		want := results(x.j, x.fewest, x.locks, 0)
		if got := results(j, l, locks, 0); !reflect.DeepEqual(got, want) {
			t.Errorf("%v: %v, with other things behind the ends %v", x.j, want, got)
		}
		many := len(j.Logs)
		behind := j.Logs[:many+2][many:]
		if behind[0].Kind != 9 || !slices.Equal(behind[1].By, list(-1)) {
			t.Errorf("%v: what is behind the logs is %v", x.j, behind)
		}
		for _, y := range append(locks, l, j.Logs[0].By) {
			if got := y[:len(y)+3][len(y):]; !slices.Equal(got, list(-7, 99, -7)) {
				t.Errorf("%v: what is behind %v is %v", x.j, y, got)
			}
		}
	}
}

func TestAllAtOnce(t *testing.T) { // R9, R10
	var group sync.WaitGroup
	for _, x := range jams() {
		group.Go(func() {
			want := results(x.j, x.fewest, x.locks, 0)
			for range 3 {
				if got := results(x.j, x.fewest, x.locks, 0); !reflect.DeepEqual(got, want) {
					t.Errorf("another result: %v, not %v", got, want)
				}
			}
		})
	}
	group.Wait()
}

func TestNilIsEmpty(t *testing.T) { // R3
	// Printed, nil and an empty list are the same.
	check := func(a, b []any) {
		t.Helper()
		if one, two := fmt.Sprint(a), fmt.Sprint(b); one != two {
			t.Errorf("%s with nil, %s with empty lists", one, two)
		}
	}
	empty := []int{}
	check(results(api.Jam{}, nil, nil, 0), results(api.Jam{Logs: []api.JamLog{}}, empty, lists(), 0))
	check(results(pile(all(), some()), nil, nil, 0), results(pile(all(empty...), some(empty...)), empty, lists(), 0))
	check(results(jamJ(), nil, lists(nil), 0), results(pile(all(1), all(0), some(0, 3), all(2, 4), all(empty...)), empty, lists(empty), 0))
	check(results(jamT(), nil, lists(list(0, 1), nil), 0), results(jamT(), empty, lists(list(0, 1), empty), 0))
}

func TestAnyArguments(t *testing.T) { // P1, R5
	r := rand.New(rand.NewPCG(61, 6))
	numbers := list(math.MinInt, math.MinInt+1, -64, -1, 0, 1, 2, 3, 4, 5, 11, 12, 13, 15, 16, 31, 32, 63, 64, math.MaxInt-1, math.MaxInt)
	odd := func() int { return numbers[r.IntN(len(numbers))] }
	oddList := func() []int {
		var l []int
		for range r.IntN(4) {
			l = append(l, odd())
		}
		if r.IntN(2) == 0 {
			slices.Sort(l)
		}
		return l
	}
	for i := range 20000 {
		j := randomJam(r, 1+r.IntN(6))
		switch i % 4 {
		case 0:
			j.Logs[r.IntN(len(j.Logs))].By = oddList()
		case 1:
			j.Logs[r.IntN(len(j.Logs))].Kind = odd()
		}
		l, log := oddList(), odd()
		locks := lists(oddList(), oddList())[:r.IntN(3)]
		got := results(j, l, locks, log)
		right := func(l []int) bool {
			inside := func(log int) bool { return log >= 0 && log < len(j.Logs) }
			strictly := func(one, two int) int { return cmp.Or(cmp.Compare(one, two), -1) }
			return !slices.ContainsFunc(l, func(log int) bool { return !inside(log) }) && slices.IsSortedFunc(l, strictly)
		}
		kinds, bys := true, true
		for _, x := range j.Logs {
			kinds = kinds && (x.Kind == 0 || x.Kind == 1)
			bys = bys && right(x.By)
		}
		a := answers{t, j}
		switch e := jam.CheckJam(j); {
		case !kinds:
			a.is("CheckJam", e, api.ErrRange, true)
			a.ofLogs(l, api.ErrRange)
			a.ofLog(log, api.ErrRange)
		case !bys:
			a.is("CheckJam", e, api.ErrArg, true)
			a.ofLogs(l, api.ErrArg)
			a.ofLog(log, api.ErrArg)
		default:
			a.is("CheckJam", e, api.OK, true)
			if !right(l) {
				a.ofLogs(l, api.ErrArg)
			}
			if !right(list(log)) {
				a.ofLog(log, api.ErrArg)
			}
		}
		if t.Failed() {
			t.Fatalf("%v, %v, %v, %d: %v", j, l, locks, log, got)
		}
	}
}

// At the limits of the chapter all calls end soon.
func TestLimits(t *testing.T) {
	for _, j := range []api.Jam{
		knot(12), ring(12, all), ring(12, some), selves(12, all), selves(12, some), row(12, all()), row(12, some()), star(12, 0), star(12, 11),
		made(12, func(int) api.JamLog { return all(upTo(12)...) }),
		made(12, func(int) api.JamLog { return some(upTo(12)...) }),
		made(12, func(log int) api.JamLog { return some(but(upTo(12), log)...) }),
	} {
		keys, locks := tightKeys(t, j), tightLocks(t, j)
		for _, log := range upTo(12) {
			results(j, keys[0], locks, log)
		}
		if many := len(apart(t, j)); many > len(keys[0]) || len(keys) > 924 || len(locks) > 924 {
			t.Errorf("%v: %d tight keys, %d tight locks, %d locks apart", j, len(keys), len(locks), many)
		}
	}
}
