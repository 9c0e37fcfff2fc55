package check_test

import (
	"math"
	"slices"
	"testing"

	"peavey/api"
	"peavey/check"
)

func list(x ...int) []int                 { return x }
func ratio(num, den int64) api.Ratio      { return api.Ratio{Num: num, Den: den} }
func between(lo, hi int64) api.Range      { return api.Range{Lo: lo, Hi: hi} }
func plan(sample, most int) api.CheckPlan { return api.CheckPlan{Sample: sample, Most: most} }

// of is a test of a good and a bad scaler.
func of(all, good, bad int, a, b api.Ratio) api.CheckTest {
	return api.CheckTest{All: all, Good: good, Bad: bad, A: a, B: b}
}

// no and tenth are risks; testT is the test T of the chapter.
func no() api.Ratio        { return ratio(0, 1) }
func tenth() api.Ratio     { return ratio(1, 10) }
func testT() api.CheckTest { return of(10, 1, 5, tenth(), tenth()) }
func centre() int64        { return 126410606437752 } // the most ways that there are to choose logs

func TestChoose(t *testing.T) { // P10.1
	for _, x := range []struct {
		logs, size int
		n          int64
		e          api.Errno
	}{
		// the examples of the chapter
		{5, 2, 10, api.OK},
		{50, 25, centre(), api.OK},
		{2, 5, 0, api.OK},
		// none, one, all
		{0, 0, 1, api.OK},
		{0, 1, 0, api.OK},
		{0, 50, 0, api.OK},
		{1, 0, 1, api.OK},
		{1, 1, 1, api.OK},
		{1, 2, 0, api.OK},
		{50, 0, 1, api.OK},
		{50, 1, 50, api.OK},
		{50, 49, 50, api.OK},
		{50, 50, 1, api.OK},
		{49, 50, 0, api.OK},
		// some
		{6, 3, 20, api.OK},
		{10, 4, 210, api.OK},
		{30, 15, 155117520, api.OK},
		{49, 24, 63205303218876, api.OK},
		{50, 24, 121548660036300, api.OK},
		{50, 26, 121548660036300, api.OK},
		// what is not from 0 to 50
		{-1, 0, 0, api.ErrRange},
		{0, -1, 0, api.ErrRange},
		{5, -1, 0, api.ErrRange},
		{51, 2, 0, api.ErrRange},
		{5, 51, 0, api.ErrRange},
		{51, 51, 0, api.ErrRange},
		{-1, -1, 0, api.ErrRange},
		{math.MaxInt, 2, 0, api.ErrRange},
		{math.MinInt, 2, 0, api.ErrRange},
		{5, math.MaxInt, 0, api.ErrRange},
		{5, math.MinInt, 0, api.ErrRange},
		{1<<32 + 5, 2, 0, api.ErrRange},
		{5, 1<<32 + 2, 0, api.ErrRange},
	} {
		if n, e := check.Choose(x.logs, x.size); n != x.n || e != x.e {
			t.Errorf("Choose(%d, %d) = %d, %d, want %d, %d", x.logs, x.size, n, e, x.n, x.e)
		}
	}
}

func TestSamplesAtMostAndChance(t *testing.T) { // P10.2
	for _, x := range []struct {
		all, wrong, size, found int
		samples, most           int64
		chance                  api.Ratio
	}{
		// the example of the chapter
		{10, 3, 4, 1, 105, 140, ratio(2, 3)},
		// all that can be found
		{10, 3, 4, 0, 35, 35, ratio(1, 6)},
		{10, 3, 4, 2, 63, 203, ratio(29, 30)},
		{10, 3, 4, 3, 7, 210, ratio(1, 1)},
		// more than are wrong, and fewer than must be
		{10, 3, 4, 4, 0, 210, ratio(1, 1)},
		{10, 8, 4, 0, 0, 0, no()},
		{10, 8, 4, 1, 0, 0, no()},
		{10, 8, 4, 2, 28, 28, ratio(2, 15)},
		// none are wrong, or all
		{10, 0, 4, 0, 210, 210, ratio(1, 1)},
		{10, 0, 4, 1, 0, 210, ratio(1, 1)},
		{10, 10, 4, 3, 0, 0, no()},
		{10, 10, 4, 4, 210, 210, ratio(1, 1)},
		// samples of none, or of all
		{10, 5, 0, 0, 1, 1, ratio(1, 1)},
		{10, 0, 0, 0, 1, 1, ratio(1, 1)},
		{10, 10, 0, 0, 1, 1, ratio(1, 1)},
		{10, 5, 10, 4, 0, 0, no()},
		{10, 5, 10, 5, 1, 1, ratio(1, 1)},
		{10, 5, 10, 6, 0, 1, ratio(1, 1)},
		// one log
		{1, 0, 0, 0, 1, 1, ratio(1, 1)},
		{1, 0, 1, 0, 1, 1, ratio(1, 1)},
		{1, 0, 1, 1, 0, 1, ratio(1, 1)},
		{1, 1, 0, 0, 1, 1, ratio(1, 1)},
		{1, 1, 1, 0, 0, 0, no()},
		{1, 1, 1, 1, 1, 1, ratio(1, 1)},
		// some
		{7, 3, 2, 1, 12, 18, ratio(6, 7)},
		{12, 4, 6, 2, 420, 672, ratio(8, 11)},
		{49, 7, 24, 3, 18839025605400, 33109773657870, ratio(44465, 84882)},
		// the most logs
		{50, 20, 25, 10, 28658892525120, 77534749481436, ratio(5712846263, 9314073566)},
		{50, 25, 25, 12, 27043120090000, 63205303218876, ratio(1, 2)},
		{50, 25, 25, 0, 1, 1, ratio(1, centre())},
		{50, 25, 25, 24, 625, centre() - 1, ratio(centre()-1, centre())},
		{50, 25, 25, 25, 1, centre(), ratio(1, 1)},
		{50, 0, 25, 0, centre(), centre(), ratio(1, 1)},
		{50, 50, 25, 25, centre(), centre(), ratio(1, 1)},
		{50, 50, 25, 24, 0, 0, no()},
		{50, 1, 25, 0, 63205303218876, 63205303218876, ratio(1, 2)},
		{50, 49, 25, 24, 63205303218876, 63205303218876, ratio(1, 2)},
		{50, 40, 10, 8, 3460710825, 6690228842, ratio(304101311, 466921735)},
		{50, 50, 50, 50, 1, 1, ratio(1, 1)},
		{50, 50, 50, 49, 0, 0, no()},
		{50, 0, 50, 50, 0, 1, ratio(1, 1)},
	} {
		n, e := check.Samples(x.all, x.wrong, x.size, x.found)
		if n != x.samples || e != api.OK {
			t.Errorf("Samples(%d, %d, %d, %d) = %d, %d, want %d", x.all, x.wrong, x.size, x.found, n, e, x.samples)
		}
		n, e = check.AtMost(x.all, x.wrong, x.size, x.found)
		if n != x.most || e != api.OK {
			t.Errorf("AtMost(%d, %d, %d, %d) = %d, %d, want %d", x.all, x.wrong, x.size, x.found, n, e, x.most)
		}
		c, e := check.Chance(x.all, x.wrong, x.size, x.found)
		if c != x.chance || e != api.OK {
			t.Errorf("Chance(%d, %d, %d, %d) = %v, %d, want %v", x.all, x.wrong, x.size, x.found, c, e, x.chance)
		}
	}
}

// answers checks the errors that functions return, and what comes with them.
type answers struct {
	t *testing.T
}

// is checks an error, and that what comes with one is zero.
func (a answers) is(name string, args any, e, want api.Errno, zero bool) {
	a.t.Helper()
	if e != want || want != api.OK && !zero {
		a.t.Errorf("%s of %v: error %d, want %d; zero values: %t", name, args, e, want, zero)
	}
}

// ofWrong checks that the functions that take how many logs are wrong return an error.
func (a answers) ofWrong(all, wrong, size, found int, want api.Errno) {
	a.t.Helper()
	args := list(all, wrong, size, found)
	n, e := check.Samples(all, wrong, size, found)
	a.is("Samples", args, e, want, n == 0)
	n, e = check.AtMost(all, wrong, size, found)
	a.is("AtMost", args, e, want, n == 0)
	c, e := check.Chance(all, wrong, size, found)
	a.is("Chance", args, e, want, c == api.Ratio{})
}

// ofFound checks that Likely returns an error, and Between another one.
func (a answers) ofFound(all, size, found int, risk api.Ratio, likely, between api.Errno) {
	a.t.Helper()
	args := list(all, size, found)
	n, e := check.Likely(all, size, found)
	a.is("Likely", args, e, likely, n == 0)
	r, e := check.Between(all, size, found, risk)
	a.is("Between", []any{args, risk}, e, between, r == api.Range{})
}

// ofDraw checks that Draw returns an error.
func (a answers) ofDraw(all, size int, number int64, want api.Errno) {
	a.t.Helper()
	l, e := check.Draw(all, size, number)
	a.is("Draw", []any{all, size, number}, e, want, len(l) == 0)
}

// ofNumber checks that Number returns an error.
func (a answers) ofNumber(all int, sample []int, want api.Errno) {
	a.t.Helper()
	n, e := check.Number(all, sample)
	a.is("Number", []any{all, sample}, e, want, n == 0)
}

// ofTest checks that the functions that take only a test return an error.
func (a answers) ofTest(x api.CheckTest, want api.Errno) {
	a.t.Helper()
	a.is("CheckTest", x, check.CheckTest(x), want, true)
	p, e := check.Plan(x)
	a.is("Plan", x, e, want, p == api.CheckPlan{})
}

// ofPlan checks that Sides returns an error, and CheckPlan another one.
func (a answers) ofPlan(x api.CheckTest, p api.CheckPlan, sides, right api.Errno) {
	a.t.Helper()
	failed, passed, e := check.Sides(x, p)
	a.is("Sides", []any{x, p}, e, sides, failed == 0 && passed == 0)
	a.is("CheckPlan", []any{x, p}, check.CheckPlan(x, p), right, true)
}

// wrongSamples are samples that there cannot be: how many logs there are, how many of them in the sample, how many are found.
func wrongSamples() [][3]int {
	return [][3]int{
		// how many logs there are
		{0, 0, 0},
		{-1, 0, 0},
		{-1, -1, -1},
		{51, 4, 1},
		{51, 0, 0},
		{51, 51, 51},
		{math.MinInt, 4, 1},
		{math.MaxInt, 4, 1},
		{1<<32 + 10, 4, 1},
		// how many of them are in the sample
		{10, -1, 0},
		{10, -1, -1},
		{10, 11, 1},
		{10, 51, 1},
		{50, 51, 1},
		{1, 2, 1},
		{10, math.MinInt, 0},
		{10, math.MaxInt, 1},
		{10, 1<<32 + 4, 1},
		// how many are found
		{10, 4, -1},
		{10, 4, 5},
		{10, 0, 1},
		{10, 10, 11},
		{50, 50, 51},
		{50, 25, 26},
		{10, 4, math.MinInt},
		{10, 4, math.MaxInt},
		{10, 4, 1 << 32},
	}
}

// wrongRisks are fractions that are no risks.
func wrongRisks() []api.Ratio {
	return []api.Ratio{
		// half, or more
		ratio(1, 2), ratio(1, 1), ratio(2, 4), ratio(3, 5), ratio(50, 100), ratio(500, 1000), ratio(501, 1000), ratio(2, 3), ratio(2, 2), ratio(9, 10),
		// less than nothing
		ratio(-1, 10), ratio(-1, 1), ratio(-1, 1000), ratio(math.MinInt64, 10), ratio(math.MinInt64+1, 2),
		// Den
		ratio(0, 0), ratio(1, 0), ratio(0, -1), ratio(-1, -10), ratio(1, -10), ratio(0, 1001), ratio(1, 1001), ratio(0, math.MaxInt64), ratio(1, math.MaxInt64), ratio(0, math.MinInt64), ratio(0, 1<<32+10),
		// Num
		ratio(math.MaxInt64, 10), ratio(1<<62, 1000), ratio(1<<62+1, 10), ratio(1<<63-1, 1<<63-1), ratio(1<<32, 10), ratio(1<<31, 10),
	}
}

// rightRisks are fractions that are risks.
func rightRisks() []api.Ratio {
	return []api.Ratio{
		no(), tenth(), ratio(0, 2), ratio(0, 3), ratio(0, 10), ratio(0, 999), ratio(0, 1000), ratio(1, 3), ratio(1, 4), ratio(2, 5), ratio(2, 6),
		ratio(4, 10), ratio(49, 100), ratio(499, 1000), ratio(499, 999), ratio(1, 1000), ratio(100, 1000), ratio(3, 7),
	}
}

func TestWrongSamples(t *testing.T) { // P10.2, P10.4, P10.5, R1, R2, R5
	a := answers{t}
	for _, x := range wrongSamples() {
		a.ofWrong(x[0], 0, x[1], x[2], api.ErrRange)
		a.ofWrong(x[0], 1, x[1], x[2], api.ErrRange)
		// what is found comes before the risk
		a.ofFound(x[0], x[1], x[2], tenth(), api.ErrRange, api.ErrRange)
		a.ofFound(x[0], x[1], x[2], ratio(1, 2), api.ErrRange, api.ErrRange)
	}
	for _, wrong := range list(-1, 11, 50, 51, math.MinInt, math.MaxInt, 1<<32) {
		a.ofWrong(10, wrong, 4, 1, api.ErrRange)
		a.ofWrong(10, wrong, 0, 0, api.ErrRange)
		a.ofWrong(10, wrong, 10, 10, api.ErrRange)
	}
	a.ofWrong(1, 2, 1, 1, api.ErrRange)
	a.ofWrong(50, 51, 1, 1, api.ErrRange)
}

func TestRisks(t *testing.T) { // P10.4, P10.6, R1, R2, R5
	a := answers{t}
	for _, risk := range wrongRisks() {
		a.ofFound(10, 4, 1, risk, api.OK, api.ErrArg)
		a.ofFound(50, 25, 12, risk, api.OK, api.ErrArg)
		a.ofFound(1, 0, 0, risk, api.OK, api.ErrArg)
		a.ofTest(of(10, 1, 5, risk, tenth()), api.ErrArg)
		a.ofTest(of(10, 1, 5, tenth(), risk), api.ErrArg)
		a.ofTest(of(10, 1, 5, risk, risk), api.ErrArg)
		a.ofTest(of(10, 5, 5, risk, risk), api.ErrRange)
	}
	for _, risk := range rightRisks() {
		a.ofFound(10, 4, 1, risk, api.OK, api.OK)
		a.ofTest(of(10, 1, 5, risk, tenth()), api.OK)
		a.ofTest(of(10, 1, 5, tenth(), risk), api.OK)
	}
}

func TestDrawAndNumber(t *testing.T) { // P10.3
	for _, x := range []struct {
		all    int
		number int64
		sample []int
	}{
		// the examples of the chapter
		{5, 0, list(0, 1, 2)},
		{5, 4, list(0, 2, 4)},
		{5, 9, list(2, 3, 4)},
		// all others of the size
		{5, 1, list(0, 1, 3)},
		{5, 2, list(0, 1, 4)},
		{5, 3, list(0, 2, 3)},
		{5, 5, list(0, 3, 4)},
		{5, 6, list(1, 2, 3)},
		{5, 7, list(1, 2, 4)},
		{5, 8, list(1, 3, 4)},
		// none, one, all
		{5, 0, nil},
		{1, 0, nil},
		{50, 0, nil},
		{1, 0, list(0)},
		{5, 0, list(0)},
		{5, 4, list(4)},
		{50, 49, list(49)},
		{5, 0, list(0, 1, 2, 3, 4)},
		{50, 0, list(0, 1, 2, 3, 4, 5, 6, 7, 8, 9, 10, 11, 12, 13, 14, 15, 16, 17, 18, 19, 20, 21, 22, 23, 24, 25, 26, 27, 28, 29, 30, 31, 32, 33, 34, 35, 36, 37, 38, 39, 40, 41, 42, 43, 44, 45, 46, 47, 48, 49)},
		// some
		{50, 49, list(1, 2)},
		{50, 48, list(0, 49)},
		{50, 948, list(25, 49)},
		{50, 1224, list(48, 49)},
		{50, 0, list(0, 1, 2, 3, 4, 5, 6, 7, 8, 9, 10, 11, 12, 13, 14, 15, 16, 17, 18, 19, 20, 21, 22, 23, 24)},
		{50, centre()/2 - 1, list(0, 26, 27, 28, 29, 30, 31, 32, 33, 34, 35, 36, 37, 38, 39, 40, 41, 42, 43, 44, 45, 46, 47, 48, 49)},
		{50, centre() / 2, list(1, 2, 3, 4, 5, 6, 7, 8, 9, 10, 11, 12, 13, 14, 15, 16, 17, 18, 19, 20, 21, 22, 23, 24, 25)},
		{50, centre() - 1, list(25, 26, 27, 28, 29, 30, 31, 32, 33, 34, 35, 36, 37, 38, 39, 40, 41, 42, 43, 44, 45, 46, 47, 48, 49)},
	} {
		l, e := check.Draw(x.all, len(x.sample), x.number)
		if !slices.Equal(l, x.sample) || e != api.OK {
			t.Errorf("Draw(%d, %d, %d) = %v, %d, want %v", x.all, len(x.sample), x.number, l, e, x.sample)
		}
		n, e := check.Number(x.all, x.sample)
		if n != x.number || e != api.OK {
			t.Errorf("Number(%d, %v) = %d, %d, want %d", x.all, x.sample, n, e, x.number)
		}
	}
}

func TestWrongDraws(t *testing.T) { // P10.3, R1, R2, R5
	for _, x := range []struct {
		all, size int
		number    int64
		e         api.Errno
	}{
		// the example of the chapter
		{5, 3, 10, api.ErrNone},
		// numbers that no sample has
		{5, 3, -1, api.ErrNone},
		{5, 3, 11, api.ErrNone},
		{5, 0, 1, api.ErrNone},
		{5, 0, -1, api.ErrNone},
		{5, 5, 1, api.ErrNone},
		{1, 1, 1, api.ErrNone},
		{50, 1, 50, api.ErrNone},
		{50, 25, centre(), api.ErrNone},
		{50, 25, math.MaxInt64, api.ErrNone},
		{50, 25, math.MinInt64, api.ErrNone},
		{5, 3, 1 << 32, api.ErrNone},
		// how many logs, how many in a sample
		{0, 0, 0, api.ErrRange},
		{-1, 0, 0, api.ErrRange},
		{51, 1, 0, api.ErrRange},
		{51, 0, 0, api.ErrRange},
		{math.MaxInt, 1, 0, api.ErrRange},
		{math.MinInt, 1, 0, api.ErrRange},
		{1<<32 + 5, 3, 0, api.ErrRange},
		{5, -1, 0, api.ErrRange},
		{5, 6, 0, api.ErrRange},
		{50, 51, 0, api.ErrRange},
		{5, math.MaxInt, 0, api.ErrRange},
		{5, math.MinInt, 0, api.ErrRange},
		{5, 1<<32 + 3, 0, api.ErrRange},
		// the order of errors
		{5, 6, -1, api.ErrRange},
		{0, 0, 5, api.ErrRange},
	} {
		answers{t}.ofDraw(x.all, x.size, x.number, x.e)
	}
}

func TestWrongNumbers(t *testing.T) { // P10.3, R1, R2, R5
	for _, x := range []struct {
		all    int
		sample []int
		e      api.Errno
	}{
		// the example of the chapter
		{5, list(2, 0), api.ErrArg},
		// not strictly increasing
		{5, list(2, 2), api.ErrArg},
		{5, list(0, 0), api.ErrArg},
		{5, list(0, 1, 3, 2), api.ErrArg},
		{5, list(0, 1, 2, 3, 3), api.ErrArg},
		{5, list(4, 3, 2, 1, 0), api.ErrArg},
		{1, list(0, 0), api.ErrArg},
		{50, make([]int, 1000), api.ErrArg},
		// no logs of the boom
		{5, list(5), api.ErrArg},
		{5, list(-1), api.ErrArg},
		{5, list(-1, 2), api.ErrArg},
		{5, list(0, 1, 2, 3, 4, 5), api.ErrArg},
		{5, list(0, 5), api.ErrArg},
		{50, list(50), api.ErrArg},
		{50, list(0, 50), api.ErrArg},
		{5, list(math.MinInt), api.ErrArg},
		{5, list(math.MaxInt), api.ErrArg},
		{5, list(0, math.MaxInt), api.ErrArg},
		{5, list(math.MaxInt, 0), api.ErrArg},
		{5, list(0, 1<<32+1), api.ErrArg},
		// how many logs
		{0, nil, api.ErrRange},
		{-1, nil, api.ErrRange},
		{51, nil, api.ErrRange},
		{51, list(0), api.ErrRange},
		{math.MaxInt, list(0), api.ErrRange},
		{math.MinInt, list(0), api.ErrRange},
		{1<<32 + 5, list(0), api.ErrRange},
		// the order of errors
		{0, list(5), api.ErrRange},
		{51, list(2, 0), api.ErrRange},
	} {
		answers{t}.ofNumber(x.all, x.sample, x.e)
	}
}

func TestBetween(t *testing.T) { // P10.4
	for _, x := range []struct {
		all, size, found int
		risk             api.Ratio
		r                api.Range
	}{
		// the examples of the chapter
		{10, 4, 1, tenth(), between(1, 6)},
		{10, 4, 1, no(), between(1, 7)},
		// not in least terms
		{10, 4, 1, ratio(100, 1000), between(1, 6)},
		{10, 4, 1, ratio(0, 1000), between(1, 7)},
		// none and all are found
		{10, 4, 0, tenth(), between(0, 3)},
		{10, 4, 4, tenth(), between(7, 10)},
		{50, 10, 0, tenth(), between(0, 9)},
		{50, 10, 10, ratio(1, 100), between(34, 50)},
		// a chance that is just the risk: 1 of 3, 3 of 10, 1 of 6
		{3, 1, 0, ratio(1, 3), between(0, 1)},
		{3, 1, 0, ratio(332, 997), between(0, 2)},
		{3, 1, 0, ratio(333, 1000), between(0, 2)},
		{3, 1, 1, ratio(1, 3), between(2, 3)},
		{3, 1, 1, ratio(333, 1000), between(1, 3)},
		{5, 2, 0, ratio(3, 10), between(0, 1)},
		{5, 2, 0, ratio(299, 1000), between(0, 2)},
		{5, 2, 2, ratio(3, 10), between(4, 5)},
		{5, 2, 2, ratio(299, 1000), between(3, 5)},
		{10, 4, 0, ratio(1, 6), between(0, 2)},
		{10, 4, 0, ratio(165, 1000), between(0, 3)},
		{2, 1, 0, ratio(1, 3), between(0, 1)},
		{2, 1, 1, ratio(1, 3), between(1, 2)},
		// samples of none, or of all
		{10, 0, 0, no(), between(0, 10)},
		{10, 0, 0, ratio(499, 1000), between(0, 10)},
		{50, 0, 0, tenth(), between(0, 50)},
		{10, 10, 3, ratio(2, 5), between(3, 3)},
		{50, 50, 20, no(), between(20, 20)},
		{50, 50, 0, no(), between(0, 0)},
		{50, 50, 50, ratio(499, 1000), between(50, 50)},
		// one log
		{1, 0, 0, ratio(1, 3), between(0, 1)},
		{1, 1, 0, ratio(1, 3), between(0, 0)},
		{1, 1, 1, ratio(499, 1000), between(1, 1)},
		{1, 1, 1, ratio(0, 1000), between(1, 1)},
		// the most logs
		{50, 10, 1, ratio(1, 20), between(1, 18)},
		{50, 10, 5, ratio(1, 20), between(13, 37)},
		{50, 25, 12, ratio(499, 1000), between(23, 25)},
		{50, 25, 12, ratio(1, 1000), between(14, 34)},
		{50, 25, 12, no(), between(12, 37)},
		{50, 25, 0, ratio(1, 1000), between(0, 8)},
		{50, 25, 25, ratio(1, 1000), between(42, 50)},
		{50, 1, 0, tenth(), between(0, 44)},
		{50, 1, 1, tenth(), between(6, 50)},
		{50, 49, 20, ratio(1, 100), between(20, 21)},
		{50, 5, 2, ratio(1, 3), between(12, 29)},
	} {
		r, e := check.Between(x.all, x.size, x.found, x.risk)
		if r != x.r || e != api.OK {
			t.Errorf("Between(%d, %d, %d, %v) = %v, %d, want %v", x.all, x.size, x.found, x.risk, r, e, x.r)
		}
	}
}

func TestLikely(t *testing.T) { // P10.5
	for _, x := range []struct {
		all, size, found, n int
	}{
		// the examples of the chapter
		{10, 4, 1, 2},
		{10, 4, 0, 0},
		// some
		{10, 4, 2, 5},
		{10, 4, 4, 10},
		{7, 3, 1, 2},
		{7, 3, 2, 5},
		{8, 2, 1, 4},
		{9, 4, 1, 2},
		// of several the least one
		{3, 2, 1, 1},
		{5, 2, 1, 2},
		{5, 3, 1, 1},
		{5, 3, 2, 3},
		{9, 4, 2, 4},
		{11, 3, 1, 3},
		{11, 3, 2, 7},
		// samples of none, or of all
		{1, 0, 0, 0},
		{10, 0, 0, 0},
		{50, 0, 0, 0},
		{10, 10, 7, 7},
		{50, 50, 17, 17},
		{50, 50, 50, 50},
		{1, 1, 0, 0},
		{1, 1, 1, 1},
		// the most logs
		{50, 10, 0, 0},
		{50, 10, 1, 5},
		{50, 10, 5, 25},
		{50, 10, 9, 45},
		{50, 10, 10, 50},
		{50, 25, 12, 24},
		{50, 25, 13, 26},
		{50, 1, 0, 0},
		{50, 1, 1, 50},
		{49, 7, 3, 21},
	} {
		n, e := check.Likely(x.all, x.size, x.found)
		if n != x.n || e != api.OK {
			t.Errorf("Likely(%d, %d, %d) = %d, %d, want %d", x.all, x.size, x.found, n, e, x.n)
		}
	}
}

func TestCheckTest(t *testing.T) { // P10.6, R1, R2, R5
	none, half := no(), ratio(1, 2)
	for _, x := range []struct {
		t api.CheckTest
		e api.Errno
	}{
		{testT(), api.OK},
		// All
		{of(1, 0, 1, none, none), api.OK},
		{of(50, 0, 1, none, none), api.OK},
		{of(0, 0, 0, none, none), api.ErrRange},
		{of(0, 0, 1, none, none), api.ErrRange},
		{of(-1, 0, 1, none, none), api.ErrRange},
		{of(51, 0, 1, none, none), api.ErrRange},
		{of(math.MaxInt, 0, 1, none, none), api.ErrRange},
		{of(math.MinInt, 0, 1, none, none), api.ErrRange},
		{of(1<<32+10, 1, 5, none, none), api.ErrRange},
		// Good
		{of(10, 0, 5, none, none), api.OK},
		{of(10, 4, 5, none, none), api.OK},
		{of(10, -1, 5, none, none), api.ErrRange},
		{of(10, 5, 5, none, none), api.ErrRange},
		{of(10, 6, 5, none, none), api.ErrRange},
		{of(10, 0, 0, none, none), api.ErrRange},
		{of(10, 10, 10, none, none), api.ErrRange},
		{of(10, math.MinInt, 5, none, none), api.ErrRange},
		{of(10, math.MaxInt, 5, none, none), api.ErrRange},
		{of(10, 1<<32, 5, none, none), api.ErrRange},
		// Bad
		{of(10, 0, 10, none, none), api.OK},
		{of(10, 9, 10, none, none), api.OK},
		{of(50, 49, 50, none, none), api.OK},
		{of(10, 0, 11, none, none), api.ErrRange},
		{of(10, 10, 11, none, none), api.ErrRange},
		{of(50, 0, 51, none, none), api.ErrRange},
		{of(10, 0, -1, none, none), api.ErrRange},
		{of(10, -2, -1, none, none), api.ErrRange},
		{of(10, 0, math.MinInt, none, none), api.ErrRange},
		{of(10, 0, math.MaxInt, none, none), api.ErrRange},
		{of(10, 0, 1<<32+5, none, none), api.ErrRange},
		{of(10, math.MinInt, math.MaxInt, none, none), api.ErrRange},
		{of(10, 1<<32+1, 1<<32+5, none, none), api.ErrRange},
		// the order of errors
		{of(10, 1, 5, half, none), api.ErrArg},
		{of(10, 1, 5, none, half), api.ErrArg},
		{of(0, 1, 5, half, half), api.ErrRange},
		{of(10, 3, 2, half, none), api.ErrRange},
		{of(10, 3, 11, none, half), api.ErrRange},
		{api.CheckTest{}, api.ErrRange},
		{api.CheckTest{All: 1, Bad: 1}, api.ErrArg},
	} {
		a := answers{t}
		a.ofTest(x.t, x.e)
		if x.e == api.OK {
			// the plan is right, and of a wrong one comes its own error
			p, e := check.Plan(x.t)
			a.ofPlan(x.t, p, e, api.OK)
			a.ofPlan(x.t, plan(51, -1), api.ErrRange, api.ErrRange)
			continue
		}
		a.ofPlan(x.t, plan(1, 0), x.e, x.e)
		a.ofPlan(x.t, plan(51, -1), x.e, x.e)
	}
}

func TestPlan(t *testing.T) { // P10.6
	none, quarter, third := no(), ratio(1, 4), ratio(1, 3)
	for _, x := range []struct {
		t              api.CheckTest
		p              api.CheckPlan
		failed, passed int64
	}{
		// the example of the chapter
		{testT(), plan(6, 1), 0, 5},
		// no risk
		{of(10, 0, 10, none, none), plan(1, 0), 0, 0},
		{of(10, 4, 5, none, none), plan(10, 4), 0, 0},
		{of(50, 0, 1, none, none), plan(50, 0), 0, 0},
		{of(50, 24, 25, none, none), plan(50, 24), 0, 0},
		{of(50, 49, 50, none, ratio(1, 1000)), plan(50, 49), 0, 0},
		{of(50, 0, 25, none, ratio(1, 1000)), plan(9, 0), 0, 2042975},
		{of(50, 25, 50, ratio(1, 1000), none), plan(9, 8), 2042975, 0},
		{of(20, 3, 8, none, tenth()), plan(13, 3), 0, 4040},
		{of(20, 3, 8, tenth(), none), plan(16, 3), 0, 0},
		// a chance that is just a risk
		{of(10, 3, 7, third, third), plan(1, 0), 3, 3},
		{of(10, 3, 7, ratio(3, 10), ratio(3, 10)), plan(1, 0), 3, 3},
		{of(10, 3, 7, ratio(299, 1000), ratio(3, 10)), plan(3, 1), 22, 22},
		{of(10, 3, 7, ratio(3, 10), ratio(299, 1000)), plan(3, 1), 22, 22},
		{of(4, 1, 3, quarter, quarter), plan(1, 0), 1, 1},
		{of(4, 1, 3, quarter, ratio(249, 1000)), plan(3, 1), 0, 0},
		{of(5, 0, 3, none, ratio(2, 5)), plan(1, 0), 0, 2},
		{of(5, 0, 3, none, ratio(399, 1000)), plan(2, 0), 0, 1},
		{of(5, 2, 5, ratio(2, 5), none), plan(1, 0), 2, 0},
		{of(5, 2, 5, ratio(399, 1000), none), plan(2, 1), 1, 0},
		{of(10, 0, 1, none, ratio(2, 5)), plan(6, 0), 0, 84},
		{of(10, 0, 1, none, ratio(39, 100)), plan(7, 0), 0, 36},
		// few logs
		{of(1, 0, 1, ratio(499, 1000), ratio(499, 1000)), plan(1, 0), 0, 0},
		{of(2, 0, 1, third, third), plan(2, 0), 0, 0},
		{of(2, 1, 2, third, third), plan(2, 1), 0, 0},
		{of(2, 0, 2, third, third), plan(1, 0), 0, 0},
		// different risks
		{of(20, 3, 8, tenth(), ratio(1, 20)), plan(14, 3), 0, 700},
		{of(20, 3, 8, ratio(1, 20), tenth()), plan(13, 3), 0, 4040},
		{of(12, 3, 6, quarter, quarter), plan(7, 2), 126, 96},
		// the most logs
		{of(50, 1, 10, tenth(), tenth()), plan(16, 1), 0, 465105552210},
		{of(50, 2, 10, ratio(1, 20), tenth()), plan(22, 2), 0, 7629298142700},
		{of(50, 5, 15, ratio(1, 100), ratio(1, 100)), plan(31, 5), 0, 247395606920},
		{of(50, 24, 26, ratio(499, 1000), ratio(499, 1000)), plan(1, 0), 24, 24},
	} {
		if p, e := check.Plan(x.t); p != x.p || e != api.OK {
			t.Errorf("Plan(%v) = %v, %d, want %v", x.t, p, e, x.p)
		}
		if e := check.CheckPlan(x.t, x.p); e != api.OK {
			t.Errorf("CheckPlan(%v, %v) = %d", x.t, x.p, e)
		}
		if n, m, e := check.Sides(x.t, x.p); n != x.failed || m != x.passed || e != api.OK {
			t.Errorf("Sides(%v, %v) = %d, %d, %d, want %d, %d", x.t, x.p, n, m, e, x.failed, x.passed)
		}
	}
}

func TestCheckPlanAndSides(t *testing.T) { // P10.6
	for _, x := range []struct {
		p              api.CheckPlan
		failed, passed int64
		sides, right   api.Errno
	}{
		// the examples of the chapter
		{plan(5, 1), 0, 26, api.OK, api.ErrPlan},
		{plan(6, 1), 0, 5, api.OK, api.OK},
		{plan(2, 0), 9, 10, api.OK, api.ErrPlan},
		{plan(6, 7), 0, 0, api.ErrRange, api.ErrRange},
		// one of both scalers is not as it should be
		{plan(0, 0), 0, 1, api.OK, api.ErrPlan},
		{plan(10, 0), 1, 0, api.OK, api.ErrPlan},
		{plan(10, 5), 0, 1, api.OK, api.ErrPlan},
		{plan(1, 0), 1, 5, api.OK, api.ErrPlan},
		{plan(1, 1), 0, 10, api.OK, api.ErrPlan},
		{plan(6, 0), 126, 0, api.OK, api.ErrPlan},
		{plan(6, 2), 0, 55, api.OK, api.ErrPlan},
		{plan(6, 6), 0, 210, api.OK, api.ErrPlan},
		// right ones
		{plan(7, 1), 0, 0, api.OK, api.OK},
		{plan(7, 2), 0, 10, api.OK, api.OK},
		{plan(10, 1), 0, 0, api.OK, api.OK},
		{plan(10, 4), 0, 0, api.OK, api.OK},
		// no plans
		{plan(6, -1), 0, 0, api.ErrRange, api.ErrRange},
		{plan(0, 1), 0, 0, api.ErrRange, api.ErrRange},
		{plan(10, 11), 0, 0, api.ErrRange, api.ErrRange},
		{plan(11, 1), 0, 0, api.ErrRange, api.ErrRange},
		{plan(51, 1), 0, 0, api.ErrRange, api.ErrRange},
		{plan(-1, -1), 0, 0, api.ErrRange, api.ErrRange},
		{plan(-1, 0), 0, 0, api.ErrRange, api.ErrRange},
		{plan(math.MinInt, 0), 0, 0, api.ErrRange, api.ErrRange},
		{plan(math.MaxInt, 0), 0, 0, api.ErrRange, api.ErrRange},
		{plan(6, math.MinInt), 0, 0, api.ErrRange, api.ErrRange},
		{plan(6, math.MaxInt), 0, 0, api.ErrRange, api.ErrRange},
		{plan(1<<32+6, 1), 0, 0, api.ErrRange, api.ErrRange},
		{plan(6, 1<<32+1), 0, 0, api.ErrRange, api.ErrRange},
	} {
		if n, m, e := check.Sides(testT(), x.p); n != x.failed || m != x.passed || e != x.sides {
			t.Errorf("Sides(T, %v) = %d, %d, %d, want %d, %d, %d", x.p, n, m, e, x.failed, x.passed, x.sides)
		}
		if e := check.CheckPlan(testT(), x.p); e != x.right {
			t.Errorf("CheckPlan(T, %v) = %d, want %d", x.p, e, x.right)
		}
	}
}
