package share_test

import (
	"cmp"
	"fmt"
	"iter"
	"math"
	"math/big"
	"math/bits"
	"math/rand/v2"
	"reflect"
	"slices"
	"sync"
	"testing"

	"peavey/api"
	"peavey/share"
)

// The definitions of the chapter, word for word, with nothing that the package computes.

// product is two numbers multiplied, in two words, so that none is too great.
type product struct{ high, low uint64 }

func times(one, two int64) product {
	high, low := bits.Mul64(uint64(one), uint64(two))
	return product{high, low}
}

// compare compares two fractions above 0.
func compare(one, two api.Ratio) int {
	a, b := times(one.Num, two.Den), times(two.Num, one.Den)
	return cmp.Or(cmp.Compare(a.high, b.high), cmp.Compare(a.low, b.low))
}

// quotient is what an owner had, divided by the step of a number, in any terms.
func quotient(p api.SharePool, owner int, number int64) api.Ratio {
	return by(100*p.Had[owner], 100*number+p.Part)
}

// isFair reports whether shares are fair.
func isFair(p api.SharePool, shares []int64) bool {
	for one, s := range shares {
		for other, t := range shares {
			if s > 0 && other != one && compare(quotient(p, one, s-1), quotient(p, other, t)) < 0 {
				return false
			}
		}
	}
	return true
}

// rounds reports whether a divisor rounds each owner's Had to its share: Had is not more than the step of the share times the divisor, and so on.
func rounds(p api.SharePool, shares []int64, x api.Ratio) bool {
	for owner, s := range shares {
		had := by(p.Had[owner]*x.Den, x.Num)
		if compare(had, by(100*s+p.Part, 100)) > 0 || s > 0 && compare(had, by(100*(s-1)+p.Part, 100)) < 0 {
			return false
		}
	}
	return true
}

// allShares returns all lists of so many numbers from 0 on that are a sum together.
func allShares(owners int, together int64) [][]int64 {
	if owners == 0 {
		if together > 0 {
			return nil
		}
		return [][]int64{nil}
	}
	var all [][]int64
	for first := range together + 1 {
		for _, others := range allShares(owners-1, together-first) {
			all = append(all, append(list(first), others...))
		}
	}
	return all
}

// fairOf returns all fair shares of a pool.
func fairOf(p api.SharePool) [][]int64 {
	return slices.DeleteFunc(allShares(len(p.Had), p.Prize), func(shares []int64) bool { return !isFair(p, shares) })
}

// orderOf returns the owners that get the logs, one after another.
func orderOf(p api.SharePool) []int {
	got := make([]int64, len(p.Had))
	var order []int
	for range p.Prize {
		next := 0
		for owner := range p.Had {
			if compare(quotient(p, owner, got[owner]), quotient(p, next, got[next])) > 0 {
				next = owner
			}
		}
		got[next]++
		order = append(order, next)
	}
	return order
}

// counted returns how often each of so many owners is in a list.
func counted(order []int, owners int) []int64 {
	got := make([]int64, owners)
	for _, owner := range order {
		got[owner]++
	}
	return got
}

// fromSorted returns how many fair shares there are, and between which ends those of each owner lie, from all quotients, the greatest one first: what has a greater one than the last log is had by all.
func fromSorted(p api.SharePool) (int64, []api.Range) {
	spans := make([]api.Range, len(p.Had))
	if p.Prize == 0 {
		return 1, spans
	}
	var all []api.Ratio
	for owner := range p.Had {
		for number := range p.Prize {
			all = append(all, quotient(p, owner, number))
		}
	}
	slices.SortFunc(all, func(one, two api.Ratio) int { return compare(two, one) })
	last := all[p.Prize-1]
	left := p.Prize
	var tied []int
	for owner := range p.Had {
		sure := int64(0)
		for sure < p.Prize && compare(quotient(p, owner, sure), last) > 0 {
			sure++
		}
		left -= sure
		spans[owner] = just(sure)
		if compare(quotient(p, owner, sure), last) == 0 {
			tied = append(tied, owner)
		}
	}
	ways := int64(0)
	for set := range 1 << len(tied) {
		if int64(bits.OnesCount(uint(set))) == left {
			ways++
		}
	}
	for _, owner := range tied {
		spans[owner].Hi++
		if ways == 1 {
			spans[owner].Lo++
		}
	}
	return ways, spans
}

// spansOf returns the least and the greatest share of each owner in some shares.
func spansOf(all [][]int64) []api.Range {
	spans := again(len(all[0]), to(math.MaxInt64, math.MinInt64))
	for _, shares := range all {
		for owner, s := range shares {
			spans[owner] = to(min(spans[owner].Lo, s), max(spans[owner].Hi, s))
		}
	}
	return spans
}

// endsOf returns the least and the greatest divisor of fair shares, if there is a log: those of all quotients that round so.
func endsOf(p api.SharePool, shares []int64) (api.Ratio, api.Ratio) {
	var lo, hi api.Ratio
	for owner := range p.Had {
		for number := range p.Prize + 1 {
			x := inLeastTerms(quotient(p, owner, number))
			if !rounds(p, shares, x) {
				continue
			}
			if lo == (api.Ratio{}) || compare(x, lo) < 0 {
				lo = x
			}
			if hi == (api.Ratio{}) || compare(x, hi) > 0 {
				hi = x
			}
		}
	}
	return lo, hi
}

// inLeastTerms returns a fraction in least terms.
func inLeastTerms(x api.Ratio) api.Ratio {
	r := big.NewRat(x.Num, x.Den)
	return by(r.Num().Int64(), r.Denom().Int64())
}

// Pools to test.

// hads yields all lists of so many numbers from 1 to most.
func hads(owners int, most int64) iter.Seq[[]int64] {
	return func(yield func([]int64) bool) {
		had := again(owners, int64(1))
		for {
			if !yield(slices.Clone(had)) {
				return
			}
			owner := slices.IndexFunc(had, func(x int64) bool { return x < most })
			if owner < 0 {
				return
			}
			had[owner]++
			for before := range owner {
				had[before] = 1
			}
		}
	}
}

// parts are some numbers of hundredth parts.
func parts() []int64 { return list(1, 25, 33, 50, 75, 100) }

// tiny yields all pools of up to three owners that had up to five logs, with up to five prize logs, of some parts.
func tiny() iter.Seq[api.SharePool] {
	return func(yield func(api.SharePool) bool) {
		for owners := 1; owners <= 3; owners++ {
			for had := range hads(owners, 5) {
				for _, part := range parts() {
					for prize := range int64(6) {
						if !yield(pool(part, prize, had...)) {
							return
						}
					}
				}
			}
		}
	}
}

// random yields so many pools of owners from least to most, and up to so many prize logs.
func random(seed uint64, many, least, most int, prize int64) iter.Seq[api.SharePool] {
	return func(yield func(api.SharePool) bool) {
		r := rand.New(rand.NewPCG(seed, 7))
		for range many {
			p := api.SharePool{Prize: r.Int64N(prize + 1), Part: 1 + r.Int64N(100)}
			if r.IntN(2) == 0 {
				p.Part = parts()[r.IntN(len(parts()))]
			}
			// Few different numbers, in few steps, so that quotients are often equal.
			greatest := list(2, 12, 100, 1000000)[r.IntN(4)]
			step := list(1, 1, 5, greatest/2)[r.IntN(4)]
			for range least + r.IntN(most-least+1) {
				p.Had = append(p.Had, (r.Int64N(greatest)/step+1)*step)
			}
			for i := range p.Had {
				p.Had[i] = min(p.Had[i], 1000000)
			}
			if !yield(p) {
				return
			}
		}
	}
}

// all yields the pools of several sources.
func all(sources ...iter.Seq[api.SharePool]) iter.Seq[api.SharePool] {
	return func(yield func(api.SharePool) bool) {
		for _, source := range sources {
			for p := range source {
				if !yield(p) {
					return
				}
			}
		}
	}
}

// small yields all tiny pools, and some of up to five owners with up to seven prize logs.
func small() iter.Seq[api.SharePool] {
	return all(tiny(), random(1, 1500, 2, 4, 7), random(2, 300, 5, 5, 6))
}

// large yields the pools that are known, and some of up to 12 owners with up to 1,000 prize logs.
func large() iter.Seq[api.SharePool] {
	known := func(yield func(api.SharePool) bool) {
		for _, x := range pools() {
			if !yield(x.p) {
				return
			}
		}
	}
	return all(known, random(3, 300, 1, 12, 40), random(4, 40, 8, 12, 1000))
}

// The functions, for arguments that are right.

func must[T any](t *testing.T, x T, e api.Errno) T {
	t.Helper()
	if e != api.OK {
		t.Fatalf("error %d", e)
	}
	return x
}

func order(t *testing.T, p api.SharePool) []int {
	t.Helper()
	x, e := share.Order(p)
	return must(t, x, e)
}

func given(t *testing.T, p api.SharePool) []int64 {
	t.Helper()
	x, e := share.Shares(p)
	return must(t, x, e)
}

func count(t *testing.T, p api.SharePool) int64 {
	t.Helper()
	x, e := share.Count(p)
	return must(t, x, e)
}

func span(t *testing.T, p api.SharePool, owner int) api.Range {
	t.Helper()
	x, e := share.Span(p, owner)
	return must(t, x, e)
}

func spans(t *testing.T, p api.SharePool) []api.Range {
	t.Helper()
	var l []api.Range
	for owner := range p.Had {
		l = append(l, span(t, p, owner))
	}
	return l
}

func quota(t *testing.T, p api.SharePool, owner int) api.Range {
	t.Helper()
	x, e := share.Quota(p, owner)
	return must(t, x, e)
}

// Each function against its definition.

func TestOrderAgainstDefinition(t *testing.T) { // P7.3
	for p := range all(small(), large()) {
		want := orderOf(p)
		if got := order(t, p); !slices.Equal(got, want) {
			t.Fatalf("Order(%v) = %v, want %v", p, got, want)
		}
		if got, want := given(t, p), counted(want, len(p.Had)); !slices.Equal(got, want) {
			t.Fatalf("Shares(%v) = %v, want %v", p, got, want)
		}
	}
}

func TestCheckSharesAgainstDefinition(t *testing.T) { // P7.2, P7.5, G7
	for p := range small() {
		for _, shares := range allShares(len(p.Had), p.Prize) {
			fair := isFair(p, shares)
			if e := share.CheckShares(p, shares); (e == api.OK) != fair || e != api.OK && e != api.ErrShare {
				t.Fatalf("CheckShares(%v, %v) = %d, fair: %v", p, shares, e, fair)
			}
			var least, greatest api.Ratio
			want := api.ErrShare
			switch {
			case fair && p.Prize == 0:
				want = api.ErrNone
			case fair:
				least, greatest = endsOf(p, shares)
				want = api.OK
			}
			if lo, hi, e := share.Divisors(p, shares); lo != least || hi != greatest || e != want {
				t.Fatalf("Divisors(%v, %v) = %v, %v, %d, want %v, %v, %d", p, shares, lo, hi, e, least, greatest, want)
			}
		}
	}
}

// moved returns shares of which one owner gives a log to another one.
func moved(shares []int64, from, to int) []int64 {
	m := slices.Clone(shares)
	m[from]--
	m[to]++
	return m
}

func TestLargeSharesAgainstDefinition(t *testing.T) { // P7.2, P7.5
	for p := range large() {
		shares := given(t, p)
		for from := range p.Had {
			for to := range p.Had {
				other := moved(shares, from, to)
				want := api.OK
				switch {
				case other[from] < 0:
					want = api.ErrRange
				case !isFair(p, other):
					want = api.ErrShare
				}
				if e := share.CheckShares(p, other); e != want {
					t.Fatalf("CheckShares(%v, %v) = %d, want %d", p, other, e, want)
				}
				lo, hi, e := share.Divisors(p, other)
				if want == api.OK && p.Prize == 0 {
					want = api.ErrNone
				}
				if e != want {
					t.Fatalf("Divisors(%v, %v): error %d, want %d", p, other, e, want)
				}
				if e != api.OK {
					continue
				}
				if !rounds(p, other, lo) || !rounds(p, other, hi) || rounds(p, other, near(lo, -1)) || rounds(p, other, near(hi, 1)) {
					t.Fatalf("Divisors(%v, %v) = %v, %v: these do not round so, or further ones do", p, other, lo, hi)
				}
				if lo != inLeastTerms(lo) || hi != inLeastTerms(hi) {
					t.Fatalf("Divisors(%v, %v) = %v, %v: not in least terms", p, other, lo, hi)
				}
			}
		}
	}
}

func TestCheckDivisorAgainstDefinition(t *testing.T) { // P7.4
	r := rand.New(rand.NewPCG(74, 7))
	for p := range all(small(), large()) {
		shares := given(t, p)
		if len(p.Had) > 1 && r.IntN(3) == 0 && p.Prize > 0 {
			from := slices.Index(shares, slices.Max(shares))
			shares = moved(shares, from, (from+1)%len(shares))
		}
		for range 20 {
			owner := r.IntN(len(p.Had))
			x := quotient(p, owner, max(0, shares[owner]-r.Int64N(2)))
			switch r.IntN(4) {
			case 0:
				x = near(x, r.Int64N(3)-1)
			case 1:
				other := r.IntN(len(p.Had))
				y := quotient(p, other, max(0, shares[other]-r.Int64N(2)))
				x = by(x.Num+y.Num, x.Den+y.Den)
			case 2:
				x = by(1+r.Int64N(1<<r.IntN(31)), 1+r.Int64N(1<<r.IntN(31)))
			}
			want := api.OK
			if !rounds(p, shares, x) {
				want = api.ErrShare
			}
			if e := share.CheckDivisor(p, shares, x); e != want {
				t.Fatalf("CheckDivisor(%v, %v, %v) = %d, want %d", p, shares, x, e, want)
			}
		}
	}
}

func TestCountAgainstDefinition(t *testing.T) { // P7.6
	for p := range small() {
		fair := fairOf(p)
		if got := count(t, p); got != int64(len(fair)) {
			t.Fatalf("Count(%v) = %d, want %d", p, got, len(fair))
		}
		if got, want := spans(t, p), spansOf(fair); !slices.Equal(got, want) {
			t.Fatalf("Span(%v, ..) = %v, want %v", p, got, want)
		}
	}
	for p := range all(small(), large()) {
		many, want := fromSorted(p)
		if got := count(t, p); got != many {
			t.Fatalf("Count(%v) = %d, want %d", p, got, many)
		}
		if got := spans(t, p); !slices.Equal(got, want) {
			t.Fatalf("Span(%v, ..) = %v, want %v", p, got, want)
		}
	}
}

func TestQuotaAgainstDefinition(t *testing.T) { // P7.7
	for p := range all(small(), large()) {
		for owner, had := range p.Had {
			got := quota(t, p, owner)
			exact, together := had*p.Prize, sum(p.Had)
			down := got.Lo*together <= exact && (got.Lo+1)*together > exact
			up := got.Hi*together >= exact && (got.Hi-1)*together < exact
			if !down || !up {
				t.Fatalf("Quota(%v, %d) = %v", p, owner, got)
			}
		}
	}
}

// The properties.

func TestFair(t *testing.T) { // P7.8, G7
	for p := range all(small(), large()) {
		if shares := given(t, p); share.CheckShares(p, shares) != api.OK || !isFair(p, shares) {
			t.Fatalf("Shares(%v) = %v: not fair", p, shares)
		}
	}
	r := rand.New(rand.NewPCG(78, 7))
	for p := range small() {
		for _, shares := range allShares(len(p.Had), p.Prize) {
			if share.CheckShares(p, shares) != api.OK {
				noDivisor(t, p, shares)
				continue
			}
			lo, hi, e := share.Divisors(p, shares)
			switch {
			case p.Prize == 0:
				// The least one that rounds each Had to 0, and the greatest one that can be such a least one.
				lo, hi = quotient(p, slices.Index(p.Had, slices.Max(p.Had)), 0), by(100*api.MaxShareHad, 1)
			case e != api.OK || compare(lo, hi) > 0:
				t.Fatalf("Divisors(%v, %v) = %v, %v, %d", p, shares, lo, hi, e)
			}
			for range 3 {
				one, two := 1+r.Int64N(5), 1+r.Int64N(5)
				between := by(one*lo.Num+two*hi.Num, one*lo.Den+two*hi.Den)
				for _, x := range []api.Ratio{lo, hi, between} {
					if e := share.CheckDivisor(p, shares, x); e != api.OK {
						t.Fatalf("CheckDivisor(%v, %v, %v) = %d, between %v and %v", p, shares, x, e, lo, hi)
					}
				}
			}
		}
	}
}

// noDivisor checks that no divisor rounds to shares. Those that do have a least one, which is a quotient.
func noDivisor(t *testing.T, p api.SharePool, shares []int64) {
	t.Helper()
	for owner := range p.Had {
		for number := range p.Prize + 1 {
			x := quotient(p, owner, number)
			if e := share.CheckDivisor(p, shares, x); e != api.ErrShare {
				t.Fatalf("CheckDivisor(%v, %v, %v) = %d, but CheckShares says that they are not fair", p, shares, x, e)
			}
		}
	}
}

func TestAll(t *testing.T) { // P7.9
	for p := range small() {
		l := spans(t, p)
		had := make([][2]bool, len(l))
		for _, shares := range allShares(len(p.Had), p.Prize) {
			if share.CheckShares(p, shares) != api.OK {
				continue
			}
			for owner, s := range shares {
				if s < l[owner].Lo || s > l[owner].Hi {
					t.Fatalf("%v: the fair shares %v are not within %v", p, shares, l)
				}
				had[owner][0] = had[owner][0] || s == l[owner].Lo
				had[owner][1] = had[owner][1] || s == l[owner].Hi
			}
		}
		if slices.ContainsFunc(had, func(ends [2]bool) bool { return ends != [2]bool{true, true} }) {
			t.Fatalf("%v: ends of %v are not had: %v", p, l, had)
		}
	}
	for p := range all(small(), large()) {
		two := 0
		for owner, r := range spans(t, p) {
			switch r.Hi - r.Lo {
			case 0:
			case 1:
				two++
			default:
				t.Fatalf("Span(%v, %d) = %v", p, owner, r)
			}
		}
		if many := count(t, p); (many == 1) != (two == 0) || two == 1 {
			t.Fatalf("%v: %d ways to share, %d owners with two numbers", p, many, two)
		}
	}
}

func TestOneMore(t *testing.T) { // P7.10
	for p := range all(small(), large()) {
		if p.Prize == api.MaxSharePrize {
			continue
		}
		more := p
		more.Prize++
		one, two := order(t, p), order(t, more)
		if len(two) != len(one)+1 || !slices.Equal(two[:len(one)], one) {
			t.Fatalf("Order(%v) = %v, with a log more %v", p, one, two)
		}
		fewer, other := given(t, p), given(t, more)
		for owner := range p.Had {
			if other[owner] < fewer[owner] {
				t.Fatalf("Shares(%v) = %v, with a log more %v", p, fewer, other)
			}
		}
	}
}

func TestHadMore(t *testing.T) { // P7.11
	r := rand.New(rand.NewPCG(711, 7))
	for p := range all(small(), large()) {
		before, ends := given(t, p), spans(t, p)
		for owner, had := range p.Had {
			// One log more is enough for a pool of many logs, for which it takes longer.
			mores := list(1, 1+r.Int64N(10), 1+r.Int64N(1000000))
			if p.Prize > 40 {
				mores = mores[:1]
			}
			for _, more := range mores {
				q := copied(p)
				q.Had[owner] = min(had+more, api.MaxShareHad)
				after, other := given(t, q), spans(t, q)
				for i := range p.Had {
					up := after[i] >= before[i] && other[i].Lo >= ends[i].Lo && other[i].Hi >= ends[i].Hi
					down := after[i] <= before[i] && other[i].Lo <= ends[i].Lo && other[i].Hi <= ends[i].Hi
					if i == owner && !up || i != owner && !down {
						t.Fatalf("%v: shares %v, spans %v, for %v %v, %v", p, before, ends, q.Had, after, other)
					}
				}
			}
		}
	}
}

// alone returns what a list has of the owners of a set, whose bits they are.
func alone(l []int64, set int) []int64 {
	var some []int64
	for owner, x := range l {
		if set>>owner&1 == 1 {
			some = append(some, x)
		}
	}
	return some
}

func TestSomeAlone(t *testing.T) { // P7.12
	check := func(p api.SharePool, shares []int64, set int) {
		t.Helper()
		some := alone(shares, set)
		q := pool(p.Part, sum(some), alone(p.Had, set)...)
		if e := share.CheckShares(q, some); e != api.OK {
			t.Fatalf("%v are fair for %v, but %v for %v: error %d", shares, p, some, q, e)
		}
	}
	for p := range small() {
		for _, shares := range fairOf(p) {
			for set := 1; set < 1<<len(p.Had); set++ {
				check(p, shares, set)
			}
		}
	}
	r := rand.New(rand.NewPCG(712, 7))
	for p := range large() {
		check(p, given(t, p), 1+r.IntN(1<<len(p.Had)-1))
	}
}

// joined returns a pool with two owners as one, in place of the first of them.
func joined(p api.SharePool, one, two int) api.SharePool {
	had := slices.Clone(p.Had)
	had[one] += had[two]
	return pool(p.Part, p.Prize, slices.Delete(had, two, two+1)...)
}

func TestJoined(t *testing.T) { // P7.13
	for p := range all(small(), large()) {
		p.Part = 100
		fair := [][]int64{given(t, p)}
		if p.Prize <= 7 && len(p.Had) <= 5 {
			fair = fairOf(p)
		}
		for two := range p.Had {
			for one := range two {
				q := joined(p, one, two)
				if q.Had[one] > api.MaxShareHad {
					continue
				}
				most := span(t, q, one).Hi
				for _, shares := range fair {
					if most < shares[one]+shares[two] {
						t.Fatalf("%v: %d and %d get %v, together up to %d", p, one, two, shares, most)
					}
				}
			}
		}
	}
}

func TestPart(t *testing.T) { // P7.14
	check := func(p, q api.SharePool, before, after []int64) {
		t.Helper()
		for one, more := range p.Had {
			for other, fewer := range p.Had {
				if more > fewer && after[one] < before[one] && after[other] > before[other] {
					t.Fatalf("%v: shares %v with Part %d, %v with Part %d", p.Had, before, p.Part, after, q.Part)
				}
			}
		}
	}
	r := rand.New(rand.NewPCG(714, 7))
	for p := range small() {
		if p.Part == 100 {
			continue
		}
		q := p
		q.Part += 1 + r.Int64N(100-p.Part)
		fair := fairOf(q)
		for _, before := range fairOf(p) {
			for _, after := range fair {
				check(p, q, before, after)
			}
		}
	}
	for p := range large() {
		for part := p.Part + 1; part <= 100; part += 1 + r.Int64N(50) {
			q := p
			q.Part = part
			check(p, q, given(t, p), given(t, q))
		}
	}
}

func TestQuotaIsHad(t *testing.T) { // P7.15
	for p := range all(small(), large()) {
		p.Part = 100
		for owner := range p.Had {
			if s, q := span(t, p, owner), quota(t, p, owner); s.Lo < q.Lo {
				t.Fatalf("%v: the owner %d has a fair share of %d, its quota is %v", p, owner, s.Lo, q)
			}
		}
	}
}

func TestTimes(t *testing.T) { // P7.16
	r := rand.New(rand.NewPCG(716, 7))
	for p := range small() {
		most := api.MaxShareHad / slices.Max(p.Had)
		for _, times := range list(min(2, most), most, 1+r.Int64N(most)) {
			q := copied(p)
			for owner := range q.Had {
				q.Had[owner] *= times
			}
			for _, shares := range allShares(len(p.Had), p.Prize) {
				if one, two := share.CheckShares(p, shares), share.CheckShares(q, shares); one != two {
					t.Fatalf("CheckShares(%v, %v) = %d, for %v %d", p, shares, one, q.Had, two)
				}
			}
			if one, two := order(t, p), order(t, q); !slices.Equal(one, two) {
				t.Fatalf("Order(%v) = %v, for %v %v", p, one, q.Had, two)
			}
		}
	}
}

// The rules of DOC.md.

// results returns what all functions return for these arguments.
func results(p api.SharePool, shares []int64, x api.Ratio, owner int) []any {
	var out []any
	add := func(x ...any) { out = append(out, x...) }
	add(share.CheckPool(p))
	add(share.CheckShares(p, shares))
	order, e := share.Order(p)
	add(order, e)
	given, e := share.Shares(p)
	add(given, e)
	add(share.CheckDivisor(p, shares, x))
	lo, hi, e := share.Divisors(p, shares)
	add(lo, hi, e)
	count, e := share.Count(p)
	add(count, e)
	span, e := share.Span(p, owner)
	add(span, e)
	quota, e := share.Quota(p, owner)
	add(quota, e)
	return out
}

// copied returns a pool that shares no memory with another one.
func copied(p api.SharePool) api.SharePool {
	p.Had = slices.Clone(p.Had)
	return p
}

// overwrite writes over all that a list reaches.
func overwrite[N int | int64](l []N) {
	for i := range l[:cap(l)] {
		l[:cap(l)][i] = -9
	}
}

func TestNothingSharedNorChanged(t *testing.T) { // R4, R9, R10
	for _, x := range pools() {
		p, shares, last := copied(x.p), slices.Clone(x.shares), len(x.p.Had)-1
		want := results(p, shares, x.lo, last)
		told := fmt.Sprint(want)
		for _, y := range results(p, shares, x.lo, last) {
			switch y := y.(type) {
			case []int:
				overwrite(y)
			case []int64:
				overwrite(y)
			}
		}
		if !reflect.DeepEqual(p, x.p) || !slices.Equal(shares, x.shares) {
			t.Errorf("arguments are changed: %v, %v", p, shares)
		}
		results(poolP(), list(5, 3, 2), by(48, 5), 2)
		results(api.SharePool{}, nil, api.Ratio{}, 0)
		for range 3 {
			if got := results(p, shares, x.lo, last); !reflect.DeepEqual(got, want) {
				t.Fatalf("another result: %v, not %v", got, want)
			}
		}
		// What is done with arguments changes no result.
		overwrite(p.Had)
		overwrite(shares)
		if now := fmt.Sprint(want); now != told {
			t.Errorf("%s became %s", told, now)
		}
	}
}

// What is behind the end of a list that is an argument is neither read nor written.
func TestBehindTheEnd(t *testing.T) { // R4
	for _, x := range pools() {
		room := func(l []int64) []int64 { return append(slices.Clone(l), -7, 99, 7)[:len(l)] }
		p, shares := x.p, room(x.shares)
		p.Had = room(p.Had)
		want := results(x.p, x.shares, x.hi, 0)
		if got := results(p, shares, x.hi, 0); !reflect.DeepEqual(got, want) {
			t.Errorf("%v: %v, with other things behind the ends %v", x.p, want, got)
		}
		for _, y := range [][]int64{p.Had, shares} {
			if got := y[:len(y)+3][len(y):]; !slices.Equal(got, list(-7, 99, 7)) {
				t.Errorf("%v: what is behind %v is %v", x.p, y, got)
			}
		}
	}
}

func TestAllAtOnce(t *testing.T) { // R9, R10
	var group sync.WaitGroup
	for _, x := range pools() {
		group.Go(func() {
			want := results(x.p, x.shares, x.lo, 0)
			for range 3 {
				if got := results(x.p, x.shares, x.lo, 0); !reflect.DeepEqual(got, want) {
					t.Errorf("another result: %v, not %v", got, want)
				}
			}
		})
	}
	group.Wait()
}

func TestNilIsEmpty(t *testing.T) { // R3
	// Printed, nil and an empty list are the same.
	check := func(a, b []any) {
		t.Helper()
		if one, two := fmt.Sprint(a), fmt.Sprint(b); one != two {
			t.Errorf("%s with nil, %s with empty lists", one, two)
		}
	}
	check(results(api.SharePool{}, nil, by(1, 1), 0), results(api.SharePool{Had: list()}, list(), by(1, 1), 0))
	check(results(pool(50, 1), nil, by(1, 1), 0), results(api.SharePool{Had: list(), Part: 50, Prize: 1}, list(), by(1, 1), 0))
	check(results(poolP(), nil, by(1, 1), 0), results(poolP(), list(), by(1, 1), 0))
	check(results(pool(50, 0, 7), nil, by(1, 1), 0), results(pool(50, 0, 7), list(), by(1, 1), 0))
}

// errorOfPool returns what CheckPool does.
func errorOfPool(p api.SharePool) api.Errno {
	outside := func(x, lo, hi int64) bool { return x < lo || x > hi }
	if len(p.Had) < 1 || len(p.Had) > 12 {
		return api.ErrMany
	}
	wrong := outside(p.Part, 1, 100) || outside(p.Prize, 0, 1000)
	for _, had := range p.Had {
		wrong = wrong || outside(had, 1, 1000000)
	}
	if wrong {
		return api.ErrRange
	}
	return api.OK
}

// errorOfShares returns the error of numbers that are no shares of a valid pool.
func errorOfShares(p api.SharePool, shares []int64) api.Errno {
	if len(shares) != len(p.Had) {
		return api.ErrEqual
	}
	if slices.Min(shares) < 0 || slices.Max(shares) > p.Prize {
		return api.ErrRange
	}
	if sum(shares) != p.Prize {
		return api.ErrSum
	}
	return api.OK
}

func TestAnyArguments(t *testing.T) { // P1, R1, R2, R5
	r := rand.New(rand.NewPCG(71, 7))
	numbers := list(math.MinInt64, math.MinInt64+1, -1<<32, -1, 0, 1, 2, 3, 12, 50, 100, 101, 1000, 1001, 1000000, 1000001, 1<<30, 1<<30+1, 1<<32, 1<<62, math.MaxInt64-1, math.MaxInt64)
	odd := func() int64 { return numbers[r.IntN(len(numbers))] }
	for range 30000 {
		p := pool(1+r.Int64N(100), r.Int64N(9))
		var shares []int64
		for range 1 + r.IntN(12) {
			p.Had = append(p.Had, 1+r.Int64N(1000000))
			shares = append(shares, 0)
		}
		shares[r.IntN(len(shares))] = p.Prize
		switch r.IntN(6) {
		case 0:
			p.Had[r.IntN(len(p.Had))] = odd()
		case 1:
			p.Part = odd()
		case 2:
			p.Prize = odd()
		case 3:
			p.Had = append(p.Had, odd())
		}
		switch r.IntN(4) {
		case 0:
			shares[r.IntN(len(shares))] = odd()
		case 1:
			shares = append(shares, odd())
		}
		x, owner := by(odd(), odd()), int(odd())
		got := results(p, shares, x, owner)
		a := answers{t, p}
		valid := errorOfPool(p)
		a.is("CheckPool", share.CheckPool(p), valid, true)
		want := valid
		if valid == api.OK {
			want = errorOfShares(p, shares)
		}
		if want != api.OK {
			a.ofShares(shares, x, want)
		} else if x.Num < 1 || x.Num > 1<<30 || x.Den < 1 || x.Den > 1<<30 {
			a.is("CheckDivisor", share.CheckDivisor(p, shares, x), api.ErrArg, true)
		}
		switch {
		case valid != api.OK:
			a.ofOwner(owner, valid)
		case owner < 0 || owner >= len(p.Had):
			a.ofOwner(owner, api.ErrArg)
		default:
			a.hasOwner(owner)
		}
		if t.Failed() {
			t.Fatalf("%v, %v, %v, %d: %v", p, shares, x, owner, got)
		}
	}
}

// At the limits of the chapter all calls end soon.
func TestLimits(t *testing.T) {
	climb := pool(1, api.MaxSharePrize)
	for i := range int64(12) {
		climb.Had = append(climb.Had, api.MaxShareHad-11+i)
	}
	for _, p := range []api.SharePool{
		climb,
		pool(100, 1000, again(12, int64(1000000))...),
		pool(1, 1000, again(12, int64(1000000))...),
		pool(1, 1000, again(12, int64(1))...),
		pool(99, 1000, append(list(1), again(11, int64(999983))...)...),
	} {
		shares := given(t, p)
		for owner := range p.Had {
			results(p, shares, by(1<<30, 1), owner)
		}
		if sum(shares) != p.Prize || share.CheckShares(p, shares) != api.OK {
			t.Errorf("Shares(%v) = %v", p, shares)
		}
	}
}
