package check_test

import (
	"fmt"
	"iter"
	"math"
	"math/big"
	"math/bits"
	"math/rand/v2"
	"reflect"
	"slices"
	"sync"
	"testing"

	"peavey/api"
	"peavey/check"
)

// The definitions of the chapter, word for word, with nothing that the package computes.

// samplesOf yields all samples of a size of a boom, in lexicographic order.
func samplesOf(all, size int) iter.Seq[[]int] {
	return func(yield func([]int) bool) {
		sample := make([]int, size)
		for i := range sample {
			sample[i] = i
		}
		for yield(slices.Clone(sample)) {
			// The next one: the last log that can be a greater one is the next log, those behind it follow at once.
			i := size - 1
			for i >= 0 && sample[i] == all-size+i {
				i--
			}
			if i < 0 {
				return
			}
			sample[i]++
			for j := i + 1; j < size; j++ {
				sample[j] = sample[j-1] + 1
			}
		}
	}
}

// foundIn returns how many of the wrong logs, bits of a number, are in a sample.
func foundIn(wrong uint, sample []int) int {
	found := 0
	for _, log := range sample {
		found += int(wrong >> log & 1)
	}
	return found
}

// ways returns in how many ways so many logs can be chosen of logs.
func ways(logs, size int) int64 {
	return new(big.Int).Binomial(int64(logs), int64(size)).Int64()
}

// justOf returns in how many samples just so many are found; the wrong ones are chosen of the wrong logs, the others of the right ones.
func justOf(all, wrong, size, found int) int64 {
	if found > wrong || size-found > all-wrong {
		return 0
	}
	return ways(wrong, found) * ways(all-wrong, size-found)
}

// tables keep what justOf returns.
type tables map[[3]int][]int64

// row returns in how many samples of a size just so many are found, by how many these are.
func (t tables) row(all, wrong, size int) []int64 {
	key := [3]int{all, wrong, size}
	if t[key] == nil {
		for found := range size + 1 {
			t[key] = append(t[key], justOf(all, wrong, size, found))
		}
	}
	return t[key]
}

// sum returns numbers together.
func sum(numbers ...int64) int64 {
	var all int64
	for _, n := range numbers {
		all += n
	}
	return all
}

// isAtMost reports whether a chance is at most a risk.
func isAtMost(samples, all int64, risk api.Ratio) bool {
	return big.NewRat(samples, all).Cmp(big.NewRat(risk.Num, risk.Den)) <= 0
}

// isTooGreat and isTooSmall report whether a number of wrong logs is too great, or too small.
func (t tables) isTooGreat(all, wrong, size, found int, risk api.Ratio) bool {
	row := t.row(all, wrong, size)
	return isAtMost(sum(row[:found+1]...), sum(row...), risk)
}

func (t tables) isTooSmall(all, wrong, size, found int, risk api.Ratio) bool {
	row := t.row(all, wrong, size)
	return isAtMost(sum(row[found:]...), sum(row...), risk)
}

// sidesOf returns with how many samples both scalers are told wrongly.
func (t tables) sidesOf(x api.CheckTest, p api.CheckPlan) (int64, int64) {
	return sum(t.row(x.All, x.Good, p.Sample)[p.Most+1:]...), sum(t.row(x.All, x.Bad, p.Sample)[:p.Most+1]...)
}

// isRight reports whether a plan is right.
func (t tables) isRight(x api.CheckTest, p api.CheckPlan) bool {
	failed, passed := t.sidesOf(x, p)
	all := ways(x.All, p.Sample)
	return isAtMost(failed, all, x.A) && isAtMost(passed, all, x.B)
}

// plansOf yields all plans of a test, those with a lesser Sample first, of these those with a lesser Most.
func plansOf(x api.CheckTest) iter.Seq[api.CheckPlan] {
	return func(yield func(api.CheckPlan) bool) {
		for sample := 0; sample <= x.All; sample++ {
			for most := 0; most <= sample; most++ {
				if !yield(plan(sample, most)) {
					return
				}
			}
		}
	}
}

// What to test.

// boomsOf yields for each of some numbers of logs each size and each number that is found.
func boomsOf(logs ...int) iter.Seq[[3]int] {
	return func(yield func([3]int) bool) {
		for _, all := range logs {
			for size := range all + 1 {
				for found := range size + 1 {
					if !yield([3]int{all, size, found}) {
						return
					}
				}
			}
		}
	}
}

// upTo returns the numbers of logs that a boom can have, up to one.
func upTo(most int) []int {
	var l []int
	for all := 1; all <= most; all++ {
		l = append(l, all)
	}
	return l
}

// fewAndMany are numbers of logs, all small ones and some great ones.
func fewAndMany() []int { return append(upTo(12), 23, 37, 49, 50) }

// randomRisk returns a risk, often one that some chance is equal to.
func randomRisk(r *rand.Rand) api.Ratio {
	if r.IntN(3) == 0 {
		l := rightRisks()
		return l[r.IntN(len(l))]
	}
	den := 1 + r.Int64N(int64(list(12, 100, 1000)[r.IntN(3)]))
	return ratio(r.Int64N((den+1)/2), den)
}

// smallTests yields all tests of few logs, with some risks.
func smallTests() iter.Seq[api.CheckTest] {
	return func(yield func(api.CheckTest) bool) {
		risks := []api.Ratio{no(), ratio(1, 10), ratio(1, 6), ratio(2, 10), ratio(1, 3), ratio(2, 5), ratio(499, 1000)}
		for all := range 8 {
			for bad := range all + 1 {
				for good := range bad {
					for _, a := range risks {
						for _, b := range risks {
							if !yield(of(all, good, bad, a, b)) {
								return
							}
						}
					}
				}
			}
		}
	}
}

// randomTests yields so many tests of up to 50 logs.
func randomTests(seed uint64, many int) iter.Seq[api.CheckTest] {
	return func(yield func(api.CheckTest) bool) {
		r := rand.New(rand.NewPCG(seed, 10))
		for range many {
			all := 1 + r.IntN(50)
			if r.IntN(3) == 0 {
				all = 50 - r.IntN(3)
			}
			bad := 1 + r.IntN(all)
			if !yield(of(all, r.IntN(bad), bad, randomRisk(r), randomRisk(r))) {
				return
			}
		}
	}
}

// tests yields the tests of both.
func tests(seed uint64, many int) iter.Seq[api.CheckTest] {
	return func(yield func(api.CheckTest) bool) {
		for _, source := range []iter.Seq[api.CheckTest]{smallTests(), randomTests(seed, many)} {
			for x := range source {
				if !yield(x) {
					return
				}
			}
		}
	}
}

// The functions, for arguments that are right.

func must[T any](t *testing.T, x T, e api.Errno) T {
	t.Helper()
	if e != api.OK {
		t.Fatalf("error %d", e)
	}
	return x
}

func choose(t *testing.T, logs, size int) int64 {
	t.Helper()
	n, e := check.Choose(logs, size)
	return must(t, n, e)
}

func samples(t *testing.T, all, wrong, size, found int) int64 {
	t.Helper()
	n, e := check.Samples(all, wrong, size, found)
	return must(t, n, e)
}

func atMost(t *testing.T, all, wrong, size, found int) int64 {
	t.Helper()
	n, e := check.AtMost(all, wrong, size, found)
	return must(t, n, e)
}

func chance(t *testing.T, all, wrong, size, found int) *big.Rat {
	t.Helper()
	c, e := check.Chance(all, wrong, size, found)
	must(t, c, e)
	return big.NewRat(c.Num, c.Den)
}

func draw(t *testing.T, all, size int, number int64) []int {
	t.Helper()
	l, e := check.Draw(all, size, number)
	return must(t, l, e)
}

func number(t *testing.T, all int, sample []int) int64 {
	t.Helper()
	n, e := check.Number(all, sample)
	return must(t, n, e)
}

func rangeOf(t *testing.T, all, size, found int, risk api.Ratio) api.Range {
	t.Helper()
	r, e := check.Between(all, size, found, risk)
	return must(t, r, e)
}

func likely(t *testing.T, all, size, found int) int {
	t.Helper()
	n, e := check.Likely(all, size, found)
	return must(t, n, e)
}

func planOf(t *testing.T, x api.CheckTest) api.CheckPlan {
	t.Helper()
	p, e := check.Plan(x)
	return must(t, p, e)
}

// Each function against its definition.

func TestChooseAgainstDefinition(t *testing.T) { // P10.1
	for logs := range 51 {
		for size := range 51 {
			if n, want := choose(t, logs, size), ways(logs, size); n != want {
				t.Errorf("Choose(%d, %d) = %d, want %d", logs, size, n, want)
			}
		}
	}
	for logs := range 11 {
		for size := range logs + 1 {
			many := int64(0)
			for range samplesOf(logs, size) {
				many++
			}
			if n := choose(t, logs, size); n != many {
				t.Errorf("Choose(%d, %d) = %d, want %d", logs, size, n, many)
			}
		}
	}
}

// Whichever logs are wrong, the samples can be counted one by one.
func TestSamplesCounted(t *testing.T) { // P10.2
	for all := 1; all <= 8; all++ {
		for wrong := range uint(1) << all {
			for size := range all + 1 {
				just := make([]int64, size+1)
				for sample := range samplesOf(all, size) {
					just[foundIn(wrong, sample)]++
				}
				many := bits.OnesCount(wrong)
				for found := range just {
					if n := samples(t, all, many, size, found); n != just[found] {
						t.Fatalf("Samples(%d, %d, %d, %d) = %d, want %d", all, many, size, found, n, just[found])
					}
					if n, want := atMost(t, all, many, size, found), sum(just[:found+1]...); n != want {
						t.Fatalf("AtMost(%d, %d, %d, %d) = %d, want %d", all, many, size, found, n, want)
					}
				}
			}
		}
	}
}

func TestSamplesAtMostAndChanceAgainstDefinition(t *testing.T) { // P10.2
	known := tables{}
	for x := range boomsOf(fewAndMany()...) {
		all, size, found := x[0], x[1], x[2]
		for wrong := range all + 1 {
			row := known.row(all, wrong, size)
			if n := samples(t, all, wrong, size, found); n != row[found] {
				t.Fatalf("Samples(%d, %d, %d, %d) = %d, want %d", all, wrong, size, found, n, row[found])
			}
			most := sum(row[:found+1]...)
			if n := atMost(t, all, wrong, size, found); n != most {
				t.Fatalf("AtMost(%d, %d, %d, %d) = %d, want %d", all, wrong, size, found, n, most)
			}
			want := big.NewRat(most, ways(all, size))
			c, e := check.Chance(all, wrong, size, found)
			if c != ratio(want.Num().Int64(), want.Denom().Int64()) || e != api.OK {
				t.Fatalf("Chance(%d, %d, %d, %d) = %v, %d, want %v", all, wrong, size, found, c, e, want)
			}
		}
	}
}

func TestDrawAndNumberAgainstDefinition(t *testing.T) { // P10.3, P10.9
	for all := 1; all <= 11; all++ {
		for size := range all + 1 {
			before := int64(0)
			for sample := range samplesOf(all, size) {
				if l := draw(t, all, size, before); !slices.Equal(l, sample) {
					t.Fatalf("Draw(%d, %d, %d) = %v, want %v", all, size, before, l, sample)
				}
				if n := number(t, all, sample); n != before {
					t.Fatalf("Number(%d, %v) = %d, want %d", all, sample, n, before)
				}
				before++
			}
			answers{t}.ofDraw(all, size, before, api.ErrNone)
		}
	}
	for _, x := range [][2]int{{50, 1}, {50, 2}, {50, 3}, {49, 48}, {30, 4}, {50, 48}} {
		before := int64(0)
		for sample := range samplesOf(x[0], x[1]) {
			if l, n := draw(t, x[0], x[1], before), number(t, x[0], sample); !slices.Equal(l, sample) || n != before {
				t.Fatalf("%d of %d: the sample %d is %v, Draw returns %v, Number %d", x[1], x[0], before, sample, l, n)
			}
			before++
		}
		answers{t}.ofDraw(x[0], x[1], before, api.ErrNone)
	}
}

func TestBetweenAgainstDefinition(t *testing.T) { // P10.4, P10.10
	r := rand.New(rand.NewPCG(104, 10))
	known := tables{}
	for x := range boomsOf(fewAndMany()...) {
		all, size, found := x[0], x[1], x[2]
		for range 8 {
			risk := randomRisk(r)
			if all > 30 && r.IntN(4) > 0 {
				continue
			}
			got := rangeOf(t, all, size, found, risk)
			for wrong := range all + 1 {
				isGreat, isSmall := known.isTooGreat(all, wrong, size, found, risk), known.isTooSmall(all, wrong, size, found, risk)
				if isSmall != (int64(wrong) < got.Lo) || isGreat != (int64(wrong) > got.Hi) {
					t.Fatalf("Between(%d, %d, %d, %v) = %v; of %d wrong logs too small %t, too great %t", all, size, found, risk, got, wrong, isSmall, isGreat)
				}
			}
			if got.Lo > got.Hi || got.Lo < 0 || got.Hi > int64(all) {
				t.Fatalf("Between(%d, %d, %d, %v) = %v", all, size, found, risk, got)
			}
		}
	}
}

// With a risk that is a chance, what has this chance is too great, or too small; with a lesser one it is not.
func TestBetweenAtARisk(t *testing.T) { // P10.4
	for x := range boomsOf(upTo(10)...) {
		all, size, found := x[0], x[1], x[2]
		for wrong := range all + 1 {
			c, e := check.Chance(all, wrong, size, found)
			must(t, c, e)
			if c.Den > 500 || 2*c.Num >= c.Den {
				continue
			}
			if r := rangeOf(t, all, size, found, c); int64(wrong) <= r.Hi {
				t.Errorf("Between(%d, %d, %d, %v) = %v, but %d is too great", all, size, found, c, r, wrong)
			}
			less := ratio(max(0, 1000*c.Num-1)/c.Den, 1000)
			if r := rangeOf(t, all, size, found, less); c.Num > 0 && int64(wrong) > r.Hi {
				t.Errorf("Between(%d, %d, %d, %v) = %v, but %d is not too great", all, size, found, less, r, wrong)
			}
		}
	}
}

func TestLikelyAgainstDefinition(t *testing.T) { // P10.5
	known := tables{}
	for x := range boomsOf(append(fewAndMany(), 13, 14, 15, 16, 17)...) {
		all, size, found := x[0], x[1], x[2]
		want := 0
		for wrong := range all + 1 {
			if known.row(all, wrong, size)[found] > known.row(all, want, size)[found] {
				want = wrong
			}
		}
		if n := likely(t, all, size, found); n != want {
			t.Fatalf("Likely(%d, %d, %d) = %d, want %d", all, size, found, n, want)
		}
	}
}

func TestPlanAgainstDefinition(t *testing.T) { // P10.6, P10.11, G10
	known := tables{}
	for x := range tests(1, 600) {
		var want api.CheckPlan
		for want = range plansOf(x) {
			if known.isRight(x, want) {
				break
			}
		}
		if p := planOf(t, x); p != want {
			t.Fatalf("Plan(%v) = %v, want %v", x, p, want)
		}
	}
}

func TestCheckPlanAndSidesAgainstDefinition(t *testing.T) { // P10.6
	r := rand.New(rand.NewPCG(106, 10))
	known := tables{}
	for x := range tests(2, 300) {
		for p := range plansOf(x) {
			// Of many logs a few of the plans do.
			if x.All > 7 && r.IntN(20) > 0 {
				continue
			}
			failed, passed := known.sidesOf(x, p)
			if n, m, e := check.Sides(x, p); n != failed || m != passed || e != api.OK {
				t.Fatalf("Sides(%v, %v) = %d, %d, %d, want %d, %d", x, p, n, m, e, failed, passed)
			}
			want := api.OK
			if !known.isRight(x, p) {
				want = api.ErrPlan
			}
			if e := check.CheckPlan(x, p); e != want {
				t.Fatalf("CheckPlan(%v, %v) = %d, want %d", x, p, e, want)
			}
		}
	}
}

// The properties.

func TestAllSamples(t *testing.T) { // P10.7
	for _, all := range fewAndMany() {
		for size := range all + 1 {
			whole := choose(t, all, size)
			for wrong := range all + 1 {
				var together int64
				for found := range size + 1 {
					together += samples(t, all, wrong, size, found)
					if n := atMost(t, all, wrong, size, found); n != together {
						t.Fatalf("AtMost(%d, %d, %d, %d) = %d, want %d", all, wrong, size, found, n, together)
					}
				}
				if together != whole {
					t.Fatalf("%d samples of %d logs, %d of them wrong, %d in a sample; Choose returns %d", together, all, wrong, size, whole)
				}
			}
		}
	}
}

func TestExchanged(t *testing.T) { // P10.7
	for _, all := range fewAndMany() {
		for size := range all + 1 {
			for wrong := range size + 1 {
				for found := range wrong + 1 {
					if one, two := chance(t, all, wrong, size, found), chance(t, all, size, wrong, found); one.Cmp(two) != 0 {
						t.Fatalf("Chance(%d, %d, %d, %d) = %v, exchanged %v", all, wrong, size, found, one, two)
					}
				}
			}
		}
	}
}

func TestMore(t *testing.T) { // P10.8
	for x := range boomsOf(append(upTo(10), 29, 50)...) {
		all, size, found := x[0], x[1], x[2]
		for wrong := range all + 1 {
			c := chance(t, all, wrong, size, found)
			if wrong < all && chance(t, all, wrong+1, size, found).Cmp(c) > 0 {
				t.Fatalf("Chance(%d, %d, %d, %d) = %v, with more wrong logs greater", all, wrong, size, found, c)
			}
			if size < all && chance(t, all, wrong, size+1, found).Cmp(c) > 0 {
				t.Fatalf("Chance(%d, %d, %d, %d) = %v, with a greater sample greater", all, wrong, size, found, c)
			}
			if found < size && chance(t, all, wrong, size, found+1).Cmp(c) < 0 {
				t.Fatalf("Chance(%d, %d, %d, %d) = %v, with more found less", all, wrong, size, found, c)
			}
		}
	}
}

func TestOneNumberEach(t *testing.T) { // P10.9
	r := rand.New(rand.NewPCG(109, 10))
	for range 3000 {
		all := 1 + r.IntN(50)
		size := r.IntN(all + 1)
		n := r.Int64N(ways(all, size))
		l := draw(t, all, size, n)
		if len(l) != size || number(t, all, l) != n {
			t.Fatalf("Draw(%d, %d, %d) = %v, of which Number is %d", all, size, n, l, number(t, all, l))
		}
		sample := r.Perm(all)[:size]
		slices.Sort(sample)
		if l := draw(t, all, size, number(t, all, sample)); !slices.Equal(l, sample) {
			t.Fatalf("Number(%d, %v) = %d, but Draw returns %v", all, sample, number(t, all, sample), l)
		}
	}
}

func TestSamplesWithALog(t *testing.T) { // P10.9
	for all := 1; all <= 10; all++ {
		for size := 1; size <= all; size++ {
			var with [10]int64
			for n := range choose(t, all, size) {
				for _, log := range draw(t, all, size, n) {
					with[log]++
				}
			}
			for log := range all {
				if want := choose(t, all-1, size-1); with[log] != want {
					t.Fatalf("the log %d of %d is in %d samples of %d, want %d", log, all, with[log], size, want)
				}
			}
		}
	}
}

func TestOutsideAndWithin(t *testing.T) { // P10.10
	r := rand.New(rand.NewPCG(1010, 10))
	one := big.NewRat(1, 1)
	for x := range boomsOf(append(upTo(10), 31, 50)...) {
		all, size, found := x[0], x[1], x[2]
		if all > 10 && r.IntN(5) > 0 {
			continue
		}
		risk := randomRisk(r)
		most := big.NewRat(risk.Num, risk.Den)
		between := rangeOf(t, all, size, found, risk)
		for wrong := range all + 1 {
			noMore, noFewer := chance(t, all, wrong, size, found), one
			if found > 0 {
				noFewer = new(big.Rat).Sub(one, chance(t, all, wrong, size, found-1))
			}
			isGreat, isSmall := noMore.Cmp(most) <= 0, noFewer.Cmp(most) <= 0
			if isSmall != (int64(wrong) < between.Lo) || isGreat != (int64(wrong) > between.Hi) {
				t.Fatalf("Between(%d, %d, %d, %v) = %v; with %d wrong logs the chances are %v, %v", all, size, found, risk, between, wrong, noMore, noFewer)
			}
		}
	}
}

func TestLesserRisk(t *testing.T) { // P10.10
	r := rand.New(rand.NewPCG(1011, 10))
	for x := range boomsOf(fewAndMany()...) {
		all, size, found := x[0], x[1], x[2]
		one, two := randomRisk(r), randomRisk(r)
		if one.Num*two.Den > two.Num*one.Den {
			one, two = two, one
		}
		less, more := rangeOf(t, all, size, found, one), rangeOf(t, all, size, found, two)
		if less.Lo > more.Lo || less.Hi < more.Hi {
			t.Fatalf("Between(%d, %d, %d) is %v with the risk %v, %v with the risk %v", all, size, found, less, one, more, two)
		}
	}
}

func TestLikelyIsWithin(t *testing.T) { // P10.10
	for x := range boomsOf(upTo(50)...) {
		all, size, found := x[0], x[1], x[2]
		// Each number of logs with some of the risks.
		risks := []api.Ratio{tenth()}
		if all <= 12 || all == 50 {
			risks = append(risks, no(), ratio(1, 20), ratio(99, 1000))
		}
		if all > 30 && all < 50 && found%4 > 0 {
			continue
		}
		n := int64(likely(t, all, size, found))
		for _, risk := range risks {
			if r := rangeOf(t, all, size, found, risk); n < r.Lo || n > r.Hi {
				t.Fatalf("Likely(%d, %d, %d) = %d, but Between with the risk %v is %v", all, size, found, n, risk, r)
			}
		}
	}
}

func TestNoLesserPlan(t *testing.T) { // P10.11, G10
	for x := range tests(3, 150) {
		p := planOf(t, x)
		if e := check.CheckPlan(x, p); e != api.OK {
			t.Fatalf("Plan(%v) = %v, but CheckPlan returns %d", x, p, e)
		}
		for other := range plansOf(x) {
			if other == p {
				break
			}
			if e := check.CheckPlan(x, other); e != api.ErrPlan {
				t.Fatalf("Plan(%v) = %v, but %v is right, too: %d", x, p, other, e)
			}
		}
	}
}

func TestStaysRight(t *testing.T) { // P10.11
	r := rand.New(rand.NewPCG(1012, 10))
	for x := range tests(4, 300) {
		p := planOf(t, x)
		if r.IntN(2) == 0 {
			// Another right plan, if it is one.
			p.Sample = p.Sample + r.IntN(x.All-p.Sample+1)
			p.Most = r.IntN(p.Sample + 1)
		}
		if check.CheckPlan(x, p) != api.OK {
			continue
		}
		easier := []api.CheckTest{x, x, x, x}
		easier[0].Good = r.IntN(x.Good + 1)
		easier[1].Bad = x.Bad + r.IntN(x.All-x.Bad+1)
		easier[2].A = ratio(2*x.A.Num+1, 2*x.A.Den+1)
		easier[3].B = ratio(2*x.B.Num+1, 2*x.B.Den+1)
		for _, y := range easier {
			if check.CheckTest(y) == api.OK && check.CheckPlan(y, p) != api.OK {
				t.Fatalf("%v is right for %v, not for %v", p, x, y)
			}
		}
	}
}

func TestTurned(t *testing.T) { // P10.12
	for x := range boomsOf(fewAndMany()...) {
		all, size, found := x[0], x[1], x[2]
		for wrong := range all + 1 {
			if n, m := samples(t, all, wrong, size, found), samples(t, all, all-wrong, size, size-found); n != m {
				t.Fatalf("Samples(%d, %d, %d, %d) = %d, turned %d", all, wrong, size, found, n, m)
			}
		}
		r, turned := rangeOf(t, all, size, found, tenth()), rangeOf(t, all, size, size-found, tenth())
		if r.Lo != int64(all)-turned.Hi || r.Hi != int64(all)-turned.Lo {
			t.Fatalf("Between(%d, %d, %d, 1 / 10) = %v, turned %v", all, size, found, r, turned)
		}
	}
}

func TestParted(t *testing.T) { // P10.13
	for all := range 51 {
		for one := range all + 1 {
			for size := range all + 1 {
				var together int64
				for of := max(0, size-all+one); of <= min(size, one); of++ {
					together += choose(t, one, of) * choose(t, all-one, size-of)
				}
				if n := choose(t, all, size); n != together {
					t.Fatalf("Choose(%d, %d) = %d, of %d and of the others %d", all, size, n, one, together)
				}
			}
			// Of many logs a few parts do.
			if all > 20 && one > 3 {
				break
			}
		}
	}
}

func TestPartedWithWrongLogs(t *testing.T) { // P10.13
	r := rand.New(rand.NewPCG(1013, 10))
	for range 2000 {
		one, two := 1+r.IntN(25), 1+r.IntN(25)
		wrongOne, wrongTwo := r.IntN(one+1), r.IntN(two+1)
		size := r.IntN(one + two + 1)
		found := r.IntN(size + 1)
		var together int64
		for of := max(0, size-two); of <= min(size, one); of++ {
			for i := max(0, found-size+of); i <= min(found, of); i++ {
				together += samples(t, one, wrongOne, of, i) * samples(t, two, wrongTwo, size-of, found-i)
			}
		}
		if n := samples(t, one+two, wrongOne+wrongTwo, size, found); n != together {
			t.Fatalf("Samples(%d, %d, %d, %d) = %d, of both booms %d", one+two, wrongOne+wrongTwo, size, found, n, together)
		}
	}
}

// The rules of DOC.md.

// call is what functions take.
type call struct {
	all, wrong, size, found int
	number                  int64
	sample                  []int
	risk                    api.Ratio
	test                    api.CheckTest
	plan                    api.CheckPlan
}

// random returns a call with arguments that are right.
func random(r *rand.Rand) call {
	all := 1 + r.IntN(list(3, 10, 50)[r.IntN(3)])
	bad := 1 + r.IntN(all)
	c := call{all: all, wrong: r.IntN(all + 1), size: r.IntN(all + 1), risk: randomRisk(r)}
	c.found = r.IntN(c.size + 1)
	c.number = r.Int64N(ways(all, c.size))
	c.sample = r.Perm(all)[:r.IntN(all+1)]
	slices.Sort(c.sample)
	c.test = of(all, r.IntN(bad), bad, randomRisk(r), randomRisk(r))
	c.plan.Sample = r.IntN(all + 1)
	c.plan.Most = r.IntN(c.plan.Sample + 1)
	return c
}

// calls returns some calls, among them such as are at the limits.
func calls() []call {
	r := rand.New(rand.NewPCG(9, 10))
	l := []call{
		{all: 10, wrong: 3, size: 4, found: 1, number: 4, sample: list(0, 2, 4), risk: tenth(), test: testT(), plan: plan(6, 1)},
		{all: 50, wrong: 25, size: 25, found: 12, number: centre() - 1, sample: upTo(49), risk: no(), test: of(50, 24, 25, no(), no()), plan: plan(50, 24)},
		{all: 1, risk: no(), test: of(1, 0, 1, no(), no())},
	}
	for range 60 {
		l = append(l, random(r))
	}
	return l
}

// results returns what all functions return for these arguments.
func results(c call) []any {
	var out []any
	add := func(x ...any) { out = append(out, x...) }
	n, e := check.Choose(c.all, c.size)
	add(n, e)
	n, e = check.Samples(c.all, c.wrong, c.size, c.found)
	add(n, e)
	n, e = check.AtMost(c.all, c.wrong, c.size, c.found)
	add(n, e)
	chance, e := check.Chance(c.all, c.wrong, c.size, c.found)
	add(chance, e)
	sample, e := check.Draw(c.all, c.size, c.number)
	add(sample, e)
	n, e = check.Number(c.all, c.sample)
	add(n, e)
	between, e := check.Between(c.all, c.size, c.found, c.risk)
	add(between, e)
	many, e := check.Likely(c.all, c.size, c.found)
	add(many, e)
	add(check.CheckTest(c.test), check.CheckPlan(c.test, c.plan))
	p, e := check.Plan(c.test)
	add(p, e)
	failed, passed, e := check.Sides(c.test, c.plan)
	add(failed, passed, e)
	return out
}

// overwrite writes something over all that a list reaches.
func overwrite(l []int) {
	for i := range l[:cap(l)] {
		l[:cap(l)][i] = -9
	}
}

// overwriteAll writes over all that results reach.
func overwriteAll(results []any) {
	for _, x := range results {
		if l, is := x.([]int); is {
			overwrite(l)
		}
	}
}

func TestNothingSharedNorChanged(t *testing.T) { // R4, R9, R10
	for _, x := range calls() {
		c := x
		c.sample = slices.Clone(x.sample)
		want := results(c)
		told := fmt.Sprint(want)
		overwriteAll(results(c))
		if !slices.Equal(c.sample, x.sample) {
			t.Errorf("arguments are changed: %v, not %v", c, x)
		}
		results(call{all: 7, wrong: 2, size: 3, found: 1, number: 5, sample: list(6), test: testT(), plan: plan(3, 2)})
		results(call{})
		for range 2 {
			if got := results(c); !reflect.DeepEqual(got, want) {
				t.Fatalf("another result: %v, not %v", got, want)
			}
		}
		// What is done with arguments changes no result.
		overwrite(c.sample)
		if now := fmt.Sprint(want); now != told {
			t.Errorf("%s became %s", told, now)
		}
	}
}

// What is behind the end of a list that is an argument is neither read nor written.
func TestBehindTheEnd(t *testing.T) { // R4
	for _, x := range calls() {
		longer := append(slices.Clone(x.sample), 50, -1, 0)
		c := x
		c.sample = longer[:len(x.sample)]
		if got, want := results(c), results(x); !reflect.DeepEqual(got, want) {
			t.Errorf("%v: %v, with other things behind the end %v", x, want, got)
		}
		if !slices.Equal(longer[len(x.sample):], list(50, -1, 0)) {
			t.Errorf("%v: what is behind the end is changed", x)
		}
	}
}

func TestAllAtOnce(t *testing.T) { // R9, R10
	var group sync.WaitGroup
	for _, x := range calls() {
		group.Go(func() {
			want := results(x)
			for range 3 {
				if got := results(x); !reflect.DeepEqual(got, want) {
					t.Errorf("another result: %v, not %v", got, want)
				}
			}
		})
	}
	group.Wait()
}

func TestNilIsEmpty(t *testing.T) { // R3
	for _, all := range list(-1, 0, 1, 5, 50, 51) {
		n, e := check.Number(all, nil)
		m, f := check.Number(all, list())
		if n != m || e != f {
			t.Errorf("Number(%d) = %d, %d with nil, %d, %d with an empty list", all, n, e, m, f)
		}
	}
}

// isIn reports whether all numbers are from lo to hi.
func isIn(lo, hi int, numbers ...int) bool {
	return !slices.ContainsFunc(numbers, func(n int) bool { return n < lo || n > hi })
}

// isRisk reports whether a fraction is a risk.
func isRisk(r api.Ratio) bool {
	return r.Den >= 1 && r.Den <= 1000 && r.Num >= 0 && r.Num < 1000 && 2*r.Num < r.Den
}

// errorOfDraw returns what Draw does.
func (c call) errorOfDraw() api.Errno {
	switch {
	case !isIn(1, 50, c.all) || !isIn(0, c.all, c.size):
		return api.ErrRange
	case c.number < 0 || c.number >= ways(c.all, c.size):
		return api.ErrNone
	}
	return api.OK
}

// errorOfNumber returns what Number does.
func (c call) errorOfNumber() api.Errno {
	if !isIn(1, 50, c.all) {
		return api.ErrRange
	}
	once := slices.Compact(slices.Sorted(slices.Values(c.sample)))
	if !slices.Equal(once, c.sample) || !isIn(0, c.all-1, c.sample...) {
		return api.ErrArg
	}
	return api.OK
}

// errorOfFound returns what Likely and Between do, but for a wrong risk.
func (c call) errorOfFound() api.Errno {
	if !isIn(1, 50, c.all) || !isIn(0, c.all, c.size) || !isIn(0, c.size, c.found) {
		return api.ErrRange
	}
	return api.OK
}

// errorOfTest returns what CheckTest does.
func (c call) errorOfTest() api.Errno {
	x := c.test
	switch {
	case !isIn(1, 50, x.All) || x.Good < 0 || x.Good >= x.Bad || x.Bad > x.All:
		return api.ErrRange
	case !isRisk(x.A) || !isRisk(x.B):
		return api.ErrArg
	}
	return api.OK
}

// errorsOfPlan returns what Sides and CheckPlan do.
func (c call) errorsOfPlan() (api.Errno, api.Errno) {
	e := c.errorOfTest()
	switch {
	case e != api.OK:
		return e, e
	case !isIn(0, c.test.All, c.plan.Sample) || !isIn(0, c.plan.Sample, c.plan.Most):
		return api.ErrRange, api.ErrRange
	case !(tables{}).isRight(c.test, c.plan):
		return api.OK, api.ErrPlan
	}
	return api.OK, api.OK
}

// check checks that all functions return the errors that they should, and beside them only zero values.
func (c call) check(t *testing.T) {
	t.Helper()
	a := answers{t}
	want := api.OK
	if !isIn(0, 50, c.all, c.size) {
		want = api.ErrRange
	}
	n, e := check.Choose(c.all, c.size)
	a.is("Choose", list(c.all, c.size), e, want, n == 0)
	e = c.errorOfFound()
	between := e
	if e == api.OK && !isRisk(c.risk) {
		between = api.ErrArg
	}
	a.ofFound(c.all, c.size, c.found, c.risk, e, between)
	if !isIn(0, c.all, c.wrong) {
		e = api.ErrRange
	}
	a.ofWrong(c.all, c.wrong, c.size, c.found, e)
	a.ofDraw(c.all, c.size, c.number, c.errorOfDraw())
	a.ofNumber(c.all, c.sample, c.errorOfNumber())
	a.ofTest(c.test, c.errorOfTest())
	sides, right := c.errorsOfPlan()
	a.ofPlan(c.test, c.plan, sides, right)
}

// odd returns a number that is often wrong.
func odd(r *rand.Rand) int {
	l := list(math.MinInt, math.MinInt+1, -1<<32, -1, 0, 1, 2, 3, 5, 49, 50, 51, 499, 500, 1000, 1001, 1<<32, 1<<32+1, 1<<62, 1<<62+1, math.MaxInt-1, math.MaxInt)
	return l[r.IntN(len(l))]
}

// spoil changes something of a call.
func (c *call) spoil(r *rand.Rand) {
	ints := []*int{&c.all, &c.wrong, &c.size, &c.found, &c.test.All, &c.test.Good, &c.test.Bad, &c.plan.Sample, &c.plan.Most}
	longs := []*int64{&c.number, &c.risk.Num, &c.risk.Den, &c.test.A.Num, &c.test.A.Den, &c.test.B.Num, &c.test.B.Den}
	switch i := r.IntN(len(ints) + len(longs) + 2); {
	case i < len(ints):
		*ints[i] = odd(r)
	case i < len(ints)+len(longs):
		*longs[i-len(ints)] = int64(odd(r))
	case len(c.sample) > 0 && r.IntN(2) == 0:
		c.sample[r.IntN(len(c.sample))] = odd(r)
	default:
		c.sample = append(c.sample, odd(r))
	}
}

func TestAnyArguments(t *testing.T) { // P1, R1, R2, R5
	r := rand.New(rand.NewPCG(1, 10))
	for range 20000 {
		c := random(r)
		for r.IntN(4) > 0 {
			c.spoil(r)
		}
		c.check(t)
		if t.Failed() {
			t.Fatalf("%v: %v", c, results(c))
		}
	}
}
