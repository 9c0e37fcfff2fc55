package gap_test

import (
	"iter"
	"math"
	"math/bits"
	"math/rand/v2"
	"reflect"
	"slices"
	"testing"

	"peavey/api"
	"peavey/gap"
)

// The definitions of the chapter, word for word, with nothing that the package computes. A set of logs is a number whose bits they are.

// logsOf returns the logs of a set, increasing.
func logsOf(set int) []int {
	var l []int
	for log := 0; set>>log > 0; log++ {
		if set>>log&1 == 1 {
			l = append(l, log)
		}
	}
	return l
}

// fitPocket reports whether the numbers of logs are increasing.
func fitPocket(r []int64, logs []int) bool {
	for i := 1; i < len(logs); i++ {
		if r[logs[i]] < r[logs[i-1]] {
			return false
		}
	}
	return true
}

// areRun reports whether the numbers of logs are strictly decreasing.
func areRun(r []int64, logs []int) bool {
	for i := 1; i < len(logs); i++ {
		if r[logs[i]] >= r[logs[i-1]] {
			return false
		}
	}
	return true
}

// setsThat returns for each set of logs whether its logs are as is told.
func setsThat(r []int64, told func(r []int64, logs []int) bool) []bool {
	are := make([]bool, 1<<len(r))
	for set := range are {
		are[set] = told(r, logsOf(set))
	}
	return are
}

// leastParts returns for each set of logs the least sum of costs of sets that are let, and part it.
func leastParts(let []bool, cost func(logs int) int) []int {
	least := make([]int, len(let))
	for set := 1; set < len(let); set++ {
		least[set] = math.MaxInt
		lowest := set & -set
		for part := set; part > 0; part = (part - 1) & set {
			if part&lowest != 0 && let[part] {
				least[set] = min(least[set], least[set&^part]+cost(bits.OnesCount(uint(part))))
			}
		}
	}
	return least
}

// mostOf returns how many logs a right turning takes at most, for 0, 1, 2, .. pockets, up to the number of logs.
func mostOf(r []int64) []int {
	pockets := leastParts(setsThat(r, fitPocket), func(int) int { return 1 })
	most := make([]int, len(r)+1)
	for set, least := range pockets {
		for many := least; many < len(most); many++ {
			most[many] = max(most[many], bits.OnesCount(uint(set)))
		}
	}
	return most
}

// leastBound returns the least bound of runs that part a row.
func leastBound(r []int64, many int) int {
	bounds := leastParts(setsThat(r, areRun), func(logs int) int { return min(many, logs) })
	return bounds[len(bounds)-1]
}

// longestRun returns the longest run, the first one of several.
func longestRun(r []int64) []int {
	var longest []int
	for set, run := range setsThat(r, areRun) {
		logs := logsOf(set)
		if run && (len(logs) > len(longest) || len(logs) == len(longest) && slices.Compare(logs, longest) < 0) {
			longest = logs
		}
	}
	return longest
}

// placing returns the turning of each log into the first pocket whose last log is not wanted after it.
func placing(r []int64) []int {
	turning := make([]int, len(r))
	for log := range r {
		for pocket := 0; ; pocket++ {
			last := -1
			for before := range log {
				if turning[before] == pocket {
					last = before
				}
			}
			if last < 0 || r[last] <= r[log] {
				turning[log] = pocket
				break
			}
		}
	}
	return turning
}

// takes returns how many logs a turning takes, and whether it is right.
func takes(r []int64, turning []int) (int, bool) {
	taken := 0
	for log, pocket := range turning {
		if pocket < 0 {
			continue
		}
		taken++
		for before := range log {
			if turning[before] == pocket && r[before] > r[log] {
				return 0, false
			}
		}
	}
	return taken, true
}

// Rows to test.

// smallRows yields all rows of up to so many logs with numbers of which none is left out between 1 and the greatest.
func smallRows(logs int) iter.Seq[[]int64] {
	return func(yield func([]int64) bool) {
		for n := range logs + 1 {
			for numbers := range tuples(n, 1, n) {
				r := make([]int64, n)
				for i, x := range numbers {
					r[i] = int64(x)
				}
				dense := true
				for x := int64(1); n > 0 && x < slices.Max(r); x++ {
					dense = dense && slices.Contains(r, x)
				}
				if dense && !yield(r) {
					return
				}
			}
		}
	}
}

// tuples yields all lists of so many numbers from lo to hi.
func tuples(many, lo, hi int) iter.Seq[[]int] {
	return func(yield func([]int) bool) {
		var longer func(l []int) bool
		longer = func(l []int) bool {
			if len(l) == many {
				return yield(slices.Clone(l))
			}
			for x := lo; x <= hi; x++ {
				if !longer(append(l, x)) {
					return false
				}
			}
			return true
		}
		longer(nil)
	}
}

// randomRow returns a row of so many logs, with many equal numbers, few or none.
func randomRow(r *rand.Rand, logs int) []int64 {
	l := make([]int64, logs)
	most := [...]int64{2, 4, 9, 30, api.MaxNumber}[r.IntN(5)]
	steep := r.Int64N(2*most+1) - most
	for i := range l {
		l[i] = min(max(1+r.Int64N(most)+steep*int64(i)/int64(logs), 1), api.MaxNumber)
	}
	return l
}

// permutation returns a row of so many logs with different numbers.
func permutation(r *rand.Rand, logs int) []int64 {
	l := make([]int64, logs)
	for i, x := range r.Perm(logs) {
		l[i] = int64(x)*3 + 1
	}
	return l
}

// cases yields all rows of up to five logs, and some of up to nine.
func cases() iter.Seq[[]int64] {
	return func(yield func([]int64) bool) {
		for r := range smallRows(5) {
			if !yield(r) {
				return
			}
		}
		r := rand.New(rand.NewPCG(3, 3))
		for i := range 400 {
			l := randomRow(r, 6+r.IntN(4))
			if i%4 == 0 {
				l = permutation(r, 6+r.IntN(4))
			}
			if !yield(l) {
				return
			}
		}
	}
}

// longCases yields the rows of cases, and some of up to 30 logs.
func longCases() iter.Seq[[]int64] {
	return func(yield func([]int64) bool) {
		for l := range cases() {
			if !yield(l) {
				return
			}
		}
		r := rand.New(rand.NewPCG(30, 3))
		for i := range 60 {
			l := randomRow(r, 10+r.IntN(21))
			if i%3 == 0 {
				l = permutation(r, 10+r.IntN(21))
			}
			if !yield(l) {
				return
			}
		}
	}
}

// must returns a result whose error is OK.
func must[T any](t *testing.T, x T, e api.Errno) T {
	t.Helper()
	if e != api.OK {
		t.Fatalf("error %d", e)
	}
	return x
}

func shape(t *testing.T, r []int64) []int {
	t.Helper()
	s, e := gap.Shape(r)
	return must(t, s, e)
}

func most(t *testing.T, r []int64, many int) int {
	t.Helper()
	n, e := gap.Most(r, many)
	return must(t, n, e)
}

func fewest(t *testing.T, r []int64) int {
	t.Helper()
	n, e := gap.Fewest(r)
	return must(t, n, e)
}

// Each function does what its definition says.

func TestMostAgainstDefinition(t *testing.T) { // P3.2, P3.3, P3.7
	for r := range cases() {
		var wantShape []int
		want := mostOf(r)
		least := slices.Index(want, len(r))
		for many := 1; many <= least; many++ {
			wantShape = append(wantShape, want[many]-want[many-1])
		}
		if got := shape(t, r); !slices.Equal(got, wantShape) {
			t.Fatalf("Shape(%v) = %v, want %v", r, got, wantShape)
		}
		if got := fewest(t, r); got != least {
			t.Fatalf("Fewest(%v) = %d, want %d", r, got, least)
		}
		for many := range want {
			if got := most(t, r, many); got != want[many] {
				t.Fatalf("Most(%v, %d) = %d, want %d", r, many, got, want[many])
			}
			turning, e := gap.Turning(r, many)
			taken, right := takes(r, must(t, turning, e))
			if len(turning) != len(r) || len(r) > 0 && (slices.Min(turning) < -1 || slices.Max(turning) >= many) || !right || taken != want[many] {
				t.Fatalf("Turning(%v, %d) = %v; it takes %d, %v, not %d", r, many, turning, taken, right, want[many])
			}
		}
	}
}

func TestRunsAgainstDefinition(t *testing.T) { // P3.5, P3.6
	for r := range cases() {
		run, e := gap.Run(r)
		if want := longestRun(r); !slices.Equal(must(t, run, e), want) {
			t.Fatalf("Run(%v) = %v, want %v", r, run, want)
		}
		for many := range len(r) + 2 {
			runs, e := gap.Runs(r, many)
			bound, in := 0, 0
			for _, run := range must(t, runs, e) {
				if !slices.IsSorted(run) || !areRun(r, run) {
					t.Fatalf("Runs(%v, %d) = %v", r, many, runs)
				}
				for _, log := range run {
					in += 1 << log
				}
				bound += min(many, len(run))
			}
			if want := leastBound(r, many); bound != want || in != 1<<len(r)-1 || len(slices.Concat(runs...)) != len(r) {
				t.Fatalf("Runs(%v, %d) = %v; their bound is %d, want %d", r, many, runs, bound, want)
			}
		}
	}
}

func TestPlaceAgainstDefinition(t *testing.T) { // P3.4
	for r := range longCases() {
		got, e := gap.Place(r)
		if want := placing(r); !slices.Equal(must(t, got, e), want) {
			t.Fatalf("Place(%v) = %v, want %v", r, got, want)
		}
	}
}

func TestCheckTurningAgainstDefinition(t *testing.T) { // P3.2
	for r := range smallRows(4) {
		for many := range 4 {
			for turning := range tuples(len(r), -1, many-1) {
				got, e := gap.CheckTurning(r, many, turning)
				want, right := takes(r, turning)
				if right && (got != want || e != api.OK) || !right && (got != 0 || e != api.ErrRule) {
					t.Fatalf("CheckTurning(%v, %d, %v) = %d, %d, want %d, %v", r, many, turning, got, e, want, right)
				}
			}
		}
	}
}

// listsOf yields all lists of up to so many numbers from -1 to the number of logs.
func listsOf(many, logs int) iter.Seq[[]int] {
	return func(yield func([]int) bool) {
		for n := range many + 1 {
			for l := range tuples(n, -1, logs) {
				if !yield(l) {
					return
				}
			}
		}
	}
}

// runError returns what CheckRun has to.
func runError(r []int64, run []int) api.Errno {
	for i, log := range run {
		if log < 0 || log >= len(r) || i > 0 && log <= run[i-1] {
			return api.ErrRange
		}
	}
	if !areRun(r, run) {
		return api.ErrRule
	}
	return api.OK
}

func TestCheckRunAgainstDefinition(t *testing.T) { // P3.5
	for r := range smallRows(4) {
		for run := range listsOf(len(r)+1, len(r)) {
			if got, want := gap.CheckRun(r, run), runError(r, run); got != want {
				t.Fatalf("CheckRun(%v, %v) = %d, want %d", r, run, got, want)
			}
		}
	}
}

func TestCheckRunsAgainstDefinition(t *testing.T) { // P3.6
	for r := range smallRows(3) {
		all := slices.Collect(listsOf(2, len(r)))
		for _, one := range all {
			for _, two := range all {
				for many := range 3 {
					last := list()
					if len(r) == 3 {
						last = list(2)
					}
					bound := min(many, len(one)) + min(many, len(two)) + min(many, len(last))
					in := slices.Sorted(slices.Values(slices.Concat(one, two, last)))
					errors := []api.Errno{runError(r, one), runError(r, two)}
					want := api.OK
					switch {
					case slices.Contains(errors, api.ErrRange):
						want = api.ErrRange
					case slices.Contains(errors, api.ErrRule):
						want = api.ErrRule
					case !slices.Equal(in, indexes(len(r))):
						want = api.ErrSum
					}
					if want != api.OK {
						bound = 0
					}
					if got, e := gap.CheckRuns(r, many, lists(one, two, last)); got != bound || e != want {
						t.Fatalf("CheckRuns(%v, %d, %v, %v, %v) = %d, %d, want %d, %d", r, many, one, two, last, got, e, bound, want)
					}
				}
			}
		}
	}
}

// The properties that the chapter states.

func TestEither(t *testing.T) { // P3.8
	for r := range longCases() {
		run, e := gap.Run(r)
		least := fewest(t, r)
		if len(must(t, run, e)) != least || gap.CheckRun(r, run) != api.OK {
			t.Fatalf("%v: the longest run is %v, but the fewest pockets are %d", r, run, least)
		}
		for many := range len(r) + 1 {
			if all, longer := most(t, r, many) == len(r), len(run) > many; all == longer {
				t.Fatalf("%v: %d pockets take all: %v; the run %v has more logs: %v", r, many, all, run, longer)
			}
		}
	}
}

// partings yields all lists of runs that part a row.
func partings(r []int64) iter.Seq[[][]int] {
	return func(yield func([][]int) bool) {
		runs := setsThat(r, areRun)
		var more func(left int, parts [][]int) bool
		more = func(left int, parts [][]int) bool {
			if left == 0 {
				return yield(slices.Clone(parts))
			}
			for part := left; part > 0; part = (part - 1) & left {
				if part&-part == left&-left && runs[part] && !more(left&^part, append(parts, logsOf(part))) {
					return false
				}
			}
			return true
		}
		more(1<<len(r)-1, nil)
	}
}

func TestProved(t *testing.T) { // P3.9, G3
	for r := range longCases() {
		for many := range len(r) + 2 {
			if many > api.MaxGapPockets {
				break
			}
			turning, e := gap.Turning(r, many)
			taken, f := gap.CheckTurning(r, many, must(t, turning, e))
			must(t, taken, f)
			runs, e := gap.Runs(r, many)
			bound, f := gap.CheckRuns(r, many, must(t, runs, e))
			if must(t, bound, f) != taken || taken != most(t, r, many) {
				t.Fatalf("%v, %d pockets: %v takes %d, the bound of %v is %d", r, many, turning, taken, runs, bound)
			}
		}
	}
	for r := range smallRows(4) {
		for many := range 4 {
			greatest := 0
			for turning := range tuples(len(r), -1, many-1) {
				if taken, e := gap.CheckTurning(r, many, turning); e == api.OK {
					greatest = max(greatest, taken)
				}
			}
			for runs := range partings(r) {
				if bound, e := gap.CheckRuns(r, many, runs); must(t, bound, e) < greatest {
					t.Fatalf("%v, %d pockets: a turning takes %d, more than the bound of %v", r, many, greatest, runs)
				}
			}
		}
	}
}

// longestPart returns how long the longest part of a row is, in its order, whose numbers are increasing.
func longestPart(r []int64) int {
	long := make([]int, len(r))
	longest := 0
	for i := range r {
		for j := range i {
			if r[j] <= r[i] {
				long[i] = max(long[i], long[j])
			}
		}
		long[i]++
		longest = max(longest, long[i])
	}
	return longest
}

func TestShapeFalls(t *testing.T) { // P3.10
	for r := range longCases() {
		s := shape(t, r)
		sum := 0
		for i, more := range s {
			sum += more
			if more < 1 || i > 0 && more > s[i-1] || most(t, r, i+1) != sum {
				t.Fatalf("Shape(%v) = %v", r, s)
			}
		}
		if sum != len(r) || len(s) != fewest(t, r) || len(r) > 0 && s[0] != longestPart(r) {
			t.Fatalf("Shape(%v) = %v of %d logs, with increasing parts of up to %d logs", r, s, len(r), longestPart(r))
		}
	}
}

func TestPlaceTakesAll(t *testing.T) { // P3.11
	for r := range longCases() {
		place, e := gap.Place(r)
		least := fewest(t, r)
		taken, f := gap.CheckTurning(r, least, must(t, place, e))
		if must(t, taken, f) != len(r) {
			t.Fatalf("Place(%v) = %v takes %d", r, place, taken)
		}
		for pocket := range least {
			if !slices.Contains(place, pocket) {
				t.Fatalf("Place(%v) = %v, without pocket %d of %d", r, place, pocket, least)
			}
		}
		for log, pocket := range place {
			found := pocket == 0
			for before := range log {
				found = found || place[before] == pocket-1 && r[before] > r[log]
			}
			if !found {
				t.Fatalf("Place(%v) = %v: no log of the pocket before keeps log %d out", r, place, log)
			}
		}
	}
}

func TestMore(t *testing.T) { // P3.12
	x := rand.New(rand.NewPCG(12, 3))
	for r := range longCases() {
		if len(r) == api.MaxGapLogs {
			continue
		}
		longer := append(slices.Clone(r), 1+x.Int64N(10))
		for many := range len(r) + 1 {
			is, got := most(t, r, many), most(t, longer, many)
			if got < is || got > is+1 {
				t.Fatalf("%d pockets take %d of %v, %d of %v", many, is, r, got, longer)
			}
			if next := most(t, r, many+1); next < is {
				t.Fatalf("%v: %d pockets take %d, with one more %d", r, many, is, next)
			}
		}
		if is, got := fewest(t, r), fewest(t, longer); got < is || got > is+1 {
			t.Fatalf("%v needs %d pockets, %v needs %d", r, is, longer, got)
		}
	}
}

func TestTurnedRound(t *testing.T) { // P3.13
	for r := range longCases() {
		var turned []int64
		for _, number := range slices.Backward(r) {
			turned = append(turned, api.MaxNumber+1-number)
		}
		if is, got := shape(t, r), shape(t, turned); !slices.Equal(is, got) {
			t.Fatalf("the shape of %v is %v, turned round %v", r, is, got)
		}
	}
}

// areDifferent reports whether no number is in a row twice.
func areDifferent(r []int64) bool {
	return len(slices.Compact(slices.Sorted(slices.Values(r)))) == len(r)
}

func TestFolded(t *testing.T) { // P3.14
	for r := range longCases() {
		if !areDifferent(r) || len(r) == 0 {
			continue
		}
		s := shape(t, r)
		var want []int
		for k := 1; k <= s[0]; k++ {
			atLeast := 0
			for _, more := range s {
				if more >= k {
					atLeast++
				}
			}
			want = append(want, atLeast)
		}
		turned := slices.Clone(r)
		slices.Reverse(turned)
		if got := shape(t, turned); !slices.Equal(got, want) {
			t.Fatalf("the shape of %v is %v, from its end %v, want %v", r, s, got, want)
		}
	}
}

func TestJoined(t *testing.T) { // P3.15
	check := func(one, two []int64) {
		a, b, both := fewest(t, one), fewest(t, two), fewest(t, slices.Concat(one, two))
		if both > a+b || both < max(a, b) {
			t.Fatalf("%v needs %d pockets, %v needs %d, together %d", one, a, two, b, both)
		}
	}
	for one := range smallRows(3) {
		for two := range smallRows(3) {
			check(one, two)
		}
	}
	r := rand.New(rand.NewPCG(15, 3))
	for range 500 {
		check(randomRow(r, 1+r.IntN(15)), randomRow(r, 1+r.IntN(15)))
	}
}

// The rules of DOC.md.

// results returns what all functions return for these arguments.
func results(r []int64, many int, turning, run []int, runs [][]int) []any {
	var out []any
	add := func(x ...any) { out = append(out, x...) }
	add(gap.CheckRow(r))
	taken, e := gap.CheckTurning(r, many, turning)
	add(taken, e)
	best, e := gap.Turning(r, many)
	add(best, e)
	most, e := gap.Most(r, many)
	add(most, e)
	fewest, e := gap.Fewest(r)
	add(fewest, e)
	place, e := gap.Place(r)
	add(place, e)
	add(gap.CheckRun(r, run))
	longest, e := gap.Run(r)
	add(longest, e)
	bound, e := gap.CheckRuns(r, many, runs)
	add(bound, e)
	parts, e := gap.Runs(r, many)
	add(parts, e)
	shape, e := gap.Shape(r)
	add(shape, e)
	return out
}

// overwrite writes over all that a result reaches.
func overwrite(l []int) {
	for i := range l[:cap(l)] {
		l[:cap(l)][i] = -9
	}
}

func TestNothingSharedNorChanged(t *testing.T) { // R4, R9, R10
	wantTurning, wantRun := list(0, 1, 0, -1, 0, 1, 1, -1, -1), list(4, 6, 8)
	wantRuns := lists(list(0, 1, 3), list(2, 6, 7), list(4, 5), list(8))
	for _, x := range [][]int64{rowH(), rowE(), up(30), down(30), equal(12), permutation(rand.New(rand.NewPCG(1, 1)), 30)} {
		for many := range 5 {
			r, turning, run, runs := slices.Clone(x), slices.Clone(wantTurning), slices.Clone(wantRun), slices.Clone(wantRuns)
			want := results(r, many, turning, run, runs)
			for _, y := range results(r, many, turning, run, runs) {
				switch l := y.(type) {
				case []int:
					overwrite(l)
				case [][]int:
					for i, one := range l {
						others := slices.Concat(l[i+1:]...)
						overwrite(one)
						if !slices.Equal(slices.Concat(l[i+1:]...), others) {
							t.Errorf("runs share memory: %v", l)
						}
					}
				}
			}
			if !slices.Equal(r, x) || !slices.Equal(turning, wantTurning) || !slices.Equal(run, wantRun) || !reflect.DeepEqual(runs, wantRuns) {
				t.Error("arguments are changed:", r, turning, run, runs)
			}
			for range 20 {
				if got := results(r, many, turning, run, runs); !reflect.DeepEqual(got, want) {
					t.Fatalf("another result: %v, not %v", got, want)
				}
			}
		}
	}
}

func TestNilIsEmpty(t *testing.T) { // R3
	check := func(a, b []any) {
		t.Helper()
		if len(a) != len(b) {
			t.Fatal(a, b)
		}
		for i := range a {
			l, ok := a[i].([]int)
			if ok && !slices.Equal(l, b[i].([]int)) || !ok && reflect.ValueOf(a[i]).Kind() != reflect.Slice && a[i] != b[i] {
				t.Errorf("%v with nil, %v with empty lists", a, b)
			}
		}
	}
	check(results(nil, 2, nil, nil, nil), results([]int64{}, 2, []int{}, []int{}, [][]int{}))
	check(results(nil, 2, nil, nil, lists(nil, nil)), results([]int64{}, 2, []int{}, []int{}, lists([]int{}, nil)))
	check(results(rowE(), 2, nil, nil, nil), results(rowE(), 2, []int{}, []int{}, [][]int{}))
}

func TestAnyArguments(t *testing.T) { // P1, R5
	numbers := list(math.MinInt, math.MinInt+1, -1, 0, 1, 2, 7, 29, 30, 31, 1<<40, 1<<40+1, math.MaxInt-1, math.MaxInt)
	for _, a := range numbers {
		for _, b := range numbers {
			for _, c := range numbers {
				results(row(int64(a), int64(b), int64(c)), a, list(a, b, c), list(b, c), lists(list(a, b), list(c)))
				results(row(3, 1, 2), 1+c&3, list(a, b, c), list(a, b, c), lists(list(a), list(b), list(c)))
				results(down(30), c, slices.Repeat(list(a, b, c), 10), list(a, b, c), slices.Repeat(lists(list(a, b), list(c)), 15))
			}
		}
	}
}

// At the limits of the chapter all calls end soon.
func TestLimits(t *testing.T) {
	r := rand.New(rand.NewPCG(30, 30))
	long := [][]int64{up(30), down(30), equal(30), slices.Repeat(row(2, 1), 15), slices.Repeat(row(3, 1, 2), 10), slices.Concat(up(15), up(15)), slices.Concat(down(15), down(15))}
	for range 8 {
		long = append(long, permutation(r, 30), randomRow(r, 30))
	}
	for _, l := range long {
		for many := range api.MaxGapPockets + 1 {
			results(l, many, make([]int, 30), indexes(30), oneEach(30))
		}
	}
}
