package scale_test

import (
	"math"
	"slices"
	"testing"

	"peavey/api"
	"peavey/scale"
)

func list(x ...int) []int      { return x }
func longs(x ...int64) []int64 { return x }

func stem(thick ...int64) api.ScaleStem { return api.ScaleStem{Thick: thick} }

func withBad(s api.ScaleStem, bad ...int) api.ScaleStem {
	return api.ScaleStem{Thick: s.Thick, Bad: bad}
}

func rule(least, most, step, trim int, off, div, thin int64) api.ScaleRule {
	return api.ScaleRule{Least: least, Most: most, Step: step, Trim: trim, Off: off, Div: div, Thin: thin}
}

// logs returns logs of two places each.
func logs(places ...int) []api.ScaleLog {
	var l []api.ScaleLog
	for i := 0; i < len(places); i += 2 {
		l = append(l, api.ScaleLog{From: places[i], To: places[i+1]})
	}
	return l
}

// even is a stem of so many feet that is equally thick everywhere.
func even(feet int, thick int64) api.ScaleStem {
	return stem(slices.Repeat(longs(thick), feet+1)...)
}

// The stems S, B and F of the chapter's examples, and the rules R and Q.
func stemS() api.ScaleStem { return stem(10, 9, 9, 8, 8, 7, 7) }
func stemB() api.ScaleStem { return withBad(stemS(), 3) }
func stemF() api.ScaleStem { return even(5, 8) }
func ruleR() api.ScaleRule { return rule(2, 4, 2, 0, 4, 4, 6) }
func ruleQ() api.ScaleRule { return rule(2, 4, 2, 0, 0, 4, 6) }

// each lets all lengths, and each foot scales the square of how thick it is.
func each() api.ScaleRule { return rule(1, 60, 1, 0, 0, 1, 0) }

// oneFoot lets logs of one foot.
func oneFoot() api.ScaleRule { return rule(1, 1, 1, 0, 0, 1, 0) }

func TestCheckStem(t *testing.T) { // P2.1
	all := make([]int, 60)
	for i := range all {
		all[i] = i
	}
	for i, x := range []struct {
		s api.ScaleStem
		e api.Errno
	}{
		{stemS(), api.OK},
		{stemB(), api.OK},
		{stem(0, 0), api.OK}, // two places, and the least thick ones
		{stem(60, 0), api.OK},
		{withBad(stem(5, 5), 0), api.OK},
		{even(60, 60), api.OK},
		{withBad(even(60, 60), all...), api.OK}, // 61 places, all feet bad
		{withBad(stem(5, 5, 5), 0, 1), api.OK},
		{stem(), api.ErrMany},
		{stem(5), api.ErrMany},
		{even(61, 5), api.ErrMany},
		{stem(61, 5), api.ErrRange},
		{stem(5, -1), api.ErrRange},
		{stem(math.MaxInt64, math.MinInt64), api.ErrRange},
		{stem(5, 6), api.ErrRule},
		{stem(7, 5, 5, 6), api.ErrRule},
		{withBad(stem(5, 5), -1), api.ErrArg},
		{withBad(stem(5, 5), 1), api.ErrArg}, // a place, but no foot
		{withBad(stem(5, 5), math.MinInt), api.ErrArg},
		{withBad(stem(5, 5), math.MaxInt), api.ErrArg},
		{withBad(stem(5, 5, 5), 1, 1), api.ErrArg},
		{withBad(stem(5, 5, 5), 1, 0), api.ErrArg},
		{withBad(stem(5, 5, 5), 0, 2), api.ErrArg},
		// the order of errors
		{stem(61), api.ErrMany},
		{withBad(stem(), 0), api.ErrMany},
		{stem(slices.Repeat(longs(61), 62)...), api.ErrMany},
		{stem(5, 6, -1), api.ErrRange},
		{stem(5, 6, 61), api.ErrRange},
		{withBad(stem(5, 61), 9), api.ErrRange},
		{withBad(stem(5, 6), 9), api.ErrRule},
	} {
		if e := scale.CheckStem(x.s); e != x.e {
			t.Errorf("%d: CheckStem(%v) = %d, want %d", i, x.s, e, x.e)
		}
	}
}

func TestCheckRule(t *testing.T) { // P2.1
	for i, x := range []struct {
		r api.ScaleRule
		e api.Errno
	}{
		{ruleR(), api.OK},
		{ruleQ(), api.OK},
		{rule(60, 60, 10, 5, 20, 100, 60), api.OK}, // all numbers at their limits
		{rule(1, 1, 1, 0, 0, 1, 0), api.OK},
		{rule(3, 4, 10, 0, 0, 1, 0), api.OK}, // no length fits
		{rule(0, 1, 1, 0, 0, 1, 0), api.ErrRange},
		{rule(-1, -1, 1, 0, 0, 1, 0), api.ErrRange},
		{rule(0, 0, 1, 0, 0, 1, 0), api.ErrRange},
		{rule(3, 2, 1, 0, 0, 1, 0), api.ErrRange},
		{rule(1, 61, 1, 0, 0, 1, 0), api.ErrRange},
		{rule(61, 61, 1, 0, 0, 1, 0), api.ErrRange},
		{rule(1, 1, 0, 0, 0, 1, 0), api.ErrRange},
		{rule(1, 1, 11, 0, 0, 1, 0), api.ErrRange},
		{rule(1, 1, 1, -1, 0, 1, 0), api.ErrRange},
		{rule(1, 1, 1, 6, 0, 1, 0), api.ErrRange},
		{rule(1, 1, 1, 0, -1, 1, 0), api.ErrRange},
		{rule(1, 1, 1, 0, 21, 1, 0), api.ErrRange},
		{rule(1, 1, 1, 0, 0, 0, 0), api.ErrRange},
		{rule(1, 1, 1, 0, 0, 101, 0), api.ErrRange},
		{rule(1, 1, 1, 0, 0, -1, 0), api.ErrRange},
		{rule(1, 1, 1, 0, 0, 1, -1), api.ErrRange},
		{rule(1, 1, 1, 0, 0, 1, 61), api.ErrRange},
		{rule(math.MinInt, math.MaxInt, math.MaxInt, math.MinInt, math.MinInt64, math.MaxInt64, math.MinInt64), api.ErrRange},
		{api.ScaleRule{}, api.ErrRange},
	} {
		if e := scale.CheckRule(x.r); e != x.e {
			t.Errorf("%d: CheckRule(%v) = %d, want %d", i, x.r, e, x.e)
		}
	}
}

// Every function returns the error of CheckStem first, then that of CheckRule, for both rules, with zero values, whatever else is wrong.
func TestErrorOfStemAndRuleFirst(t *testing.T) {
	stems := []api.ScaleStem{stem(5), stem(5, 61), stem(5, 6), withBad(stem(5, 5), 1), stemS()}
	rules := []api.ScaleRule{{}, rule(2, 1, 1, 0, 0, 1, 0), ruleR()}
	wrong := logs(0, 0)
	for _, s := range stems {
		for _, r := range rules {
			want := scale.CheckStem(s)
			if want == api.OK {
				want = scale.CheckRule(r)
			}
			check := func(name string, e api.Errno, zero bool) {
				if want != api.OK && (e != want || !zero) {
					t.Errorf("%s of %v, %v: error %d, want %d; all zero: %v", name, s, r, e, want, zero)
				}
			}
			feet, e := scale.Feet(s, r, wrong[0])
			check("Feet", e, feet == 0)
			sum, e := scale.CheckCut(s, r, slices.Repeat(wrong, 61))
			check("CheckCut", e, sum == 0)
			best, e := scale.Best(s, r)
			check("Best", e, best == 0)
			cut, e := scale.Cut(s, r)
			check("Cut", e, len(cut) == 0)
			price, e := scale.CheckPrices(s, r, longs(-1))
			check("CheckPrices", e, price == 0)
			prices, e := scale.Prices(s, r)
			check("Prices", e, len(prices) == 0)
			count, e := scale.Count(s, r)
			check("Count", e, count == 0)
			kind, e := scale.Kind(s, r, -1)
			check("Kind", e, kind == 0)
			loss, e := scale.Loss(s, r, 99)
			check("Loss", e, loss == 0)
			between, e := scale.Between(s, r, api.ScaleRule{})
			check("Between", e, between == api.Range{})
			between, e = scale.Between(s, ruleR(), r)
			check("Between", e, between == api.Range{})
		}
	}
	if g, e := scale.Between(stemS(), ruleR(), api.ScaleRule{}); g != (api.Range{}) || e != api.ErrRange {
		t.Error("Between with a second rule that is not valid:", g, e)
	}
}

func TestFeet(t *testing.T) { // P2.2
	for i, x := range []struct {
		s        api.ScaleStem
		r        api.ScaleRule
		from, to int
		want     int64
		e        api.Errno
	}{
		{stemS(), ruleR(), 0, 2, 12, api.OK}, // the examples of the chapter
		{stemS(), ruleR(), 0, 4, 16, api.OK},
		{stemS(), ruleR(), 0, 3, 0, api.ErrCut},
		{stemB(), ruleR(), 2, 4, 0, api.ErrCut},
		{stemS(), ruleR(), 2, 6, 9, api.OK},
		{stemS(), ruleR(), 0, 6, 0, api.ErrCut}, // longer than Most
		{stemS(), rule(3, 4, 1, 0, 4, 4, 6), 0, 2, 0, api.ErrCut},
		{stemS(), rule(3, 4, 1, 0, 4, 4, 6), 0, 3, 12, api.OK}, // Least
		{stemS(), rule(3, 4, 1, 0, 4, 4, 6), 0, 4, 16, api.OK}, // Most
		{stemS(), rule(3, 4, 1, 0, 4, 4, 6), 0, 5, 0, api.ErrCut},
		{stemS(), rule(2, 4, 2, 1, 4, 4, 6), 0, 3, 8, api.OK}, // trim does not count
		{stemS(), rule(2, 4, 2, 1, 4, 4, 6), 0, 2, 0, api.ErrCut},
		{stemS(), rule(2, 4, 2, 1, 4, 4, 6), 0, 5, 9, api.OK},
		{stemS(), rule(1, 4, 1, 5, 0, 4, 0), 0, 5, 0, api.ErrCut}, // nothing but trim
		{stemS(), rule(1, 4, 1, 5, 0, 4, 0), 0, 3, 0, api.ErrCut}, // not even the trim
		{stemS(), rule(1, 4, 1, 5, 0, 4, 0), 0, 6, 12, api.OK},
		{stemS(), rule(2, 4, 2, 0, 4, 4, 9), 0, 2, 12, api.OK}, // just as thick as Thin
		{stemS(), rule(2, 4, 2, 0, 4, 4, 9), 1, 3, 0, api.ErrCut},
		{stemS(), rule(1, 4, 1, 0, 9, 1, 0), 0, 1, 0, api.ErrCut}, // not thicker than Off
		{stemS(), rule(1, 4, 1, 0, 8, 1, 0), 0, 1, 1, api.OK},
		{stemS(), rule(1, 4, 1, 0, 20, 1, 0), 0, 1, 0, api.ErrCut}, // less thick than Off: its square does not count
		{stem(4, 4, 4), rule(1, 4, 1, 0, 0, 32, 0), 0, 2, 1, api.OK},
		{stem(4, 4, 4), rule(1, 4, 1, 0, 0, 33, 0), 0, 2, 0, api.ErrCut}, // it scales 32 by 33, rounded down
		{stem(4, 4, 4), rule(1, 4, 1, 0, 0, 17, 0), 0, 2, 1, api.OK},
		{stem(0, 0), each(), 0, 1, 0, api.ErrCut},
		{even(60, 60), each(), 0, 60, 216000, api.OK}, // the greatest log
		{even(60, 60), rule(55, 60, 5, 5, 0, 1, 60), 0, 60, 198000, api.OK},
		{stemB(), ruleR(), 1, 3, 8, api.OK}, // the bad foot just behind it
		{stemB(), ruleR(), 4, 6, 4, api.OK}, // just before it
		{stemB(), ruleR(), 3, 5, 0, api.ErrCut},
		{stemB(), ruleR(), 0, 4, 0, api.ErrCut},
		{withBad(stemS(), 0, 5), ruleR(), 1, 5, 9, api.OK},
		{withBad(stemS(), 0, 5), ruleR(), 2, 6, 0, api.ErrCut},
		{withBad(stemS(), 0, 3, 5), ruleR(), 2, 4, 0, api.ErrCut}, // not the first one that is bad
		{stemS(), ruleR(), 2, 2, 0, api.ErrArg},
		{stemS(), ruleR(), 4, 2, 0, api.ErrArg},
		{stemS(), ruleR(), -1, 2, 0, api.ErrArg},
		{stemS(), ruleR(), 0, 7, 0, api.ErrArg},
		{stemS(), ruleR(), 5, 7, 0, api.ErrArg},
		{stemS(), ruleR(), math.MinInt, math.MaxInt, 0, api.ErrArg},
		{stemS(), ruleR(), math.MaxInt, math.MinInt, 0, api.ErrArg},
	} {
		got, e := scale.Feet(x.s, x.r, api.ScaleLog{From: x.from, To: x.to})
		if got != x.want || e != x.e {
			t.Errorf("%d: Feet(%v, %v, %d to %d) = %d, %d, want %d, %d", i, x.s, x.r, x.from, x.to, got, e, x.want, x.e)
		}
	}
}

func TestCheckCut(t *testing.T) { // P2.3
	var sixty []api.ScaleLog
	for i := range 60 {
		sixty = append(sixty, api.ScaleLog{From: i, To: i + 1})
	}
	for i, x := range []struct {
		s    api.ScaleStem
		r    api.ScaleRule
		logs []api.ScaleLog
		want int64
		e    api.Errno
	}{
		{stemS(), ruleR(), logs(0, 2, 2, 6), 21, api.OK}, // the examples of the chapter, and of DOC.md
		{stemS(), ruleR(), logs(0, 4, 2, 4), 0, api.ErrRule},
		{stemS(), ruleR(), logs(0, 2, 2, 4, 4, 6), 24, api.OK},
		{stemS(), ruleR(), nil, 0, api.OK},
		{stemS(), ruleR(), logs(0, 2, 4, 6), 16, api.OK}, // waste between logs
		{stemS(), ruleR(), logs(1, 3, 4, 6), 12, api.OK}, // and at the stump
		{even(60, 2), oneFoot(), sixty, 240, api.OK},     // as many logs as can be
		{even(60, 2), oneFoot(), append(sixty, sixty[0]), 0, api.ErrMany},
		{stemS(), ruleR(), logs(0, 2, 2, 7), 0, api.ErrArg},
		{stemS(), ruleR(), logs(0, 2, 3, 3), 0, api.ErrArg},
		{stemS(), ruleR(), logs(-2, 0, 0, 2), 0, api.ErrArg},
		{stemS(), ruleR(), logs(math.MinInt, math.MaxInt), 0, api.ErrArg},
		{stemS(), ruleR(), logs(2, 4, 0, 2), 0, api.ErrRule},
		{stemS(), ruleR(), logs(0, 2, 0, 2), 0, api.ErrRule},
		{stemS(), ruleR(), logs(0, 2, 4, 6, 3, 5), 0, api.ErrRule},
		{stemS(), ruleR(), logs(0, 2, 2, 3), 0, api.ErrCut},
		{stemB(), ruleR(), logs(0, 2, 2, 4), 0, api.ErrCut},
		{withBad(stem(9, 9), 0), oneFoot(), logs(0, 1), 0, api.ErrCut},
		// the order of errors
		{stemS(), ruleR(), make([]api.ScaleLog, 61), 0, api.ErrMany},
		{stemS(), ruleR(), logs(0, 4, 2, 4, 2, 7), 0, api.ErrArg},
		{stemS(), ruleR(), logs(0, 3, 2, 4, 4, 4), 0, api.ErrArg},
		{stemS(), ruleR(), logs(0, 3, 2, 4), 0, api.ErrRule},
		{stemS(), ruleR(), logs(0, 3, 3, 4, 3, 5), 0, api.ErrRule},
	} {
		if got, e := scale.CheckCut(x.s, x.r, x.logs); got != x.want || e != x.e {
			t.Errorf("%d: CheckCut(%v, %v, %v) = %d, %d, want %d, %d", i, x.s, x.r, x.logs, got, e, x.want, x.e)
		}
	}
}

// known is a stem and a rule with what a best cutting scales, how many there are, and for each place its kind and its loss.
type known struct {
	s     api.ScaleStem
	r     api.ScaleRule
	best  int64
	count int64
	kinds []int
	loss  []int64
}

func bests() []known {
	return []known{
		// the examples of the chapter
		{stemS(), ruleR(), 24, 1, list(2, 0, 2, 0, 2, 0, 2), longs(0, 12, 0, 8, 0, 4, 0)},
		{stemB(), ruleR(), 16, 1, list(2, 0, 2, 0, 2, 0, 2), longs(0, 4, 0, 0, 0, 4, 0)},
		{stemF(), ruleR(), 16, 5, list(1, 1, 1, 1, 1, 1), longs(0, 0, 0, 0, 0, 0)},
		// stems of two places
		{stem(9, 9), oneFoot(), 81, 1, list(2, 2), longs(0, 0)},
		{stem(9, 0), oneFoot(), 0, 1, list(0, 0), longs(0, 0)},
		{withBad(stem(9, 9), 0), oneFoot(), 0, 1, list(0, 0), longs(0, 0)},
		// no log is right: all feet are bad, the stem is too thin, or too short, or no length fits
		{withBad(stem(9, 9, 9, 9), 0, 1, 2), each(), 0, 1, list(0, 0, 0, 0), longs(0, 0, 0, 0)},
		{stem(3, 3, 3), ruleR(), 0, 1, list(0, 0, 0), longs(0, 0, 0)},
		{stem(9, 9, 9), rule(3, 60, 1, 0, 0, 1, 0), 0, 1, list(0, 0, 0), longs(0, 0, 0)},
		{stem(9, 9, 9), rule(1, 2, 3, 0, 0, 1, 0), 0, 1, list(0, 0, 0), longs(0, 0, 0)},
		// a place at either end is not cut in each cutting, and inside of none
		{stem(9, 9, 9, 9), rule(2, 2, 1, 0, 0, 1, 0), 162, 2, list(1, 1, 1, 1), longs(0, 0, 0, 0)},
		{stem(9, 5, 3, 0), oneFoot(), 34, 1, list(2, 2, 2, 0), longs(0, 0, 0, 0)},
		{stem(9, 9, 9), rule(2, 2, 1, 0, 0, 1, 0), 162, 1, list(2, 0, 2), longs(0, 162, 0)},
		// a place that is inside a log of a best cutting, and waste of another one, is cut in none, and loses nothing
		{stem(9, 9, 9, 9, 9, 9), rule(4, 4, 1, 0, 0, 1, 0), 324, 2, list(1, 1, 0, 0, 1, 1), longs(0, 0, 324, 324, 0, 0)},
		{stem(4, 4, 4, 4, 4), rule(1, 4, 1, 0, 0, 64, 0), 1, 1, list(2, 0, 0, 0, 2), longs(0, 1, 1, 1, 0)},
		// trim is part of a log
		{stem(9, 9, 9, 9), rule(1, 2, 1, 1, 0, 1, 0), 162, 1, list(2, 0, 0, 2), longs(0, 81, 81, 0)},
		// bad feet at either end
		{withBad(stem(9, 9, 9, 9), 0, 2), each(), 81, 1, list(0, 2, 2, 0), longs(0, 0, 0, 0)},
		{even(60, 60), each(), 216000, 0, append(append(list(2), slices.Repeat(list(1), 59)...), 2), make([]int64, 61)},
	}
}

func TestBest(t *testing.T) { // P2.3, P2.4
	for i, x := range bests() {
		if got, e := scale.Best(x.s, x.r); got != x.best || e != api.OK {
			t.Errorf("%d: Best(%v, %v) = %d, %d, want %d", i, x.s, x.r, got, e, x.best)
		}
		cut, e := scale.Cut(x.s, x.r)
		if got, f := scale.CheckCut(x.s, x.r, cut); e != api.OK || f != api.OK || got != x.best {
			t.Errorf("%d: Cut(%v, %v) = %v, %d; it scales %d, %d, not %d", i, x.s, x.r, cut, e, got, f, x.best)
		}
		prices, e := scale.Prices(x.s, x.r)
		if got, f := scale.CheckPrices(x.s, x.r, prices); e != api.OK || f != api.OK || got != x.best {
			t.Errorf("%d: Prices(%v, %v) = %v, %d; they prove %d, %d, not %d", i, x.s, x.r, prices, e, got, f, x.best)
		}
	}
}

func TestCheckPrices(t *testing.T) { // P2.4
	for i, x := range []struct {
		s      api.ScaleStem
		prices []int64
		want   int64
		e      api.Errno
	}{
		{stemS(), longs(24, 12, 12, 4, 4, 0, 0), 24, api.OK}, // the examples of the chapter
		{stemS(), longs(23, 12, 12, 4, 4, 0, 0), 0, api.ErrSum},
		{stemS(), longs(30, 30, 30, 30, 30, 30, 30), 0, api.ErrSum},
		{stemS(), longs(29, 17, 17, 9, 9, 5, 5), 29, api.OK}, // greater ones
		{stemS(), longs(api.MaxNumber, 12, 12, 4, 4, 0, 0), api.MaxNumber, api.OK},
		{stemS(), longs(24, 11, 12, 4, 4, 0, 0), 0, api.ErrSum}, // one less than the next one
		{stemS(), longs(24, 12, 12, 4, 4, 0, 1), 0, api.ErrSum}, // at the end
		{stemS(), longs(24, 12, 12, 4, 3, 0, 0), 0, api.ErrSum},
		{stemS(), longs(24, 12, 11, 4, 4, 0, 0), 0, api.ErrSum},
		{stemS(), longs(24, 8, 8, 4, 4, 0, 0), 0, api.ErrSum}, // a longer log
		{stemB(), longs(16, 4, 4, 4, 4, 0, 0), 0, api.ErrSum}, // 1 to 3 scales 8
		{stemB(), longs(16, 12, 4, 4, 4, 0, 0), 16, api.OK},
		{stem(3, 3), longs(0, 0), 0, api.OK}, // no log is right
		{stem(3, 3), longs(5, 5), 5, api.OK},
		{stem(3, 3), longs(5, 6), 0, api.ErrSum},
		{stemS(), longs(12, 12, 4, 4, 0, 0), 0, api.ErrEqual},
		{stemS(), longs(24, 24, 12, 12, 4, 4, 0, 0), 0, api.ErrEqual},
		{stemS(), nil, 0, api.ErrEqual},
		{stemS(), longs(api.MaxNumber+1, 12, 12, 4, 4, 0, 0), 0, api.ErrRange},
		{stemS(), longs(24, 12, 12, 4, 4, 0, -1), 0, api.ErrRange},
		{stemS(), longs(math.MaxInt64, 12, 12, 4, 4, 0, math.MinInt64), 0, api.ErrRange},
		// the order of errors
		{stemS(), longs(-1), 0, api.ErrEqual},
		{stemS(), longs(1, 2, -1, 0, 0, 0, 0), 0, api.ErrRange},
	} {
		if got, e := scale.CheckPrices(x.s, ruleR(), x.prices); got != x.want || e != x.e {
			t.Errorf("%d: CheckPrices(%v, %v) = %d, %d, want %d, %d", i, x.s, x.prices, got, e, x.want, x.e)
		}
	}
}

func TestCount(t *testing.T) { // P2.5
	for i, x := range bests()[:len(bests())-1] {
		if got, e := scale.Count(x.s, x.r); got != x.count || e != api.OK {
			t.Errorf("%d: Count(%v, %v) = %d, %d, want %d", i, x.s, x.r, got, e, x.count)
		}
	}
	for i, x := range []struct {
		s    api.ScaleStem
		want int64
		e    api.Errno
	}{
		{even(1, 8), 1, api.OK}, // each place inside can be cut, or not
		{even(4, 8), 8, api.OK},
		{even(40, 8), 1 << 39, api.OK},
		{even(41, 8), api.MaxNumber, api.OK}, // just MaxNumber
		{even(42, 8), 0, api.ErrOver},
		{even(60, 8), 0, api.ErrOver},
		{withBad(even(42, 8), 20), 1 << 39, api.OK}, // 20 feet before it, 21 behind it
	} {
		if got, e := scale.Count(x.s, each()); got != x.want || e != x.e {
			t.Errorf("%d: Count(%v) = %d, %d, want %d, %d", i, x.s, got, e, x.want, x.e)
		}
	}
}

func TestKindAndLoss(t *testing.T) { // P2.6
	for i, x := range bests() {
		for place, want := range x.kinds {
			if got, e := scale.Kind(x.s, x.r, place); got != want || e != api.OK {
				t.Errorf("%d: Kind(%v, %v, %d) = %d, %d, want %d", i, x.s, x.r, place, got, e, want)
			}
		}
		for place, want := range x.loss {
			if got, e := scale.Loss(x.s, x.r, place); got != want || e != api.OK {
				t.Errorf("%d: Loss(%v, %v, %d) = %d, %d, want %d", i, x.s, x.r, place, got, e, want)
			}
		}
		for _, place := range list(-1, len(x.s.Thick), math.MinInt, math.MaxInt) {
			if got, e := scale.Kind(x.s, x.r, place); got != 0 || e != api.ErrArg {
				t.Errorf("%d: Kind(%v, %v, %d) = %d, %d", i, x.s, x.r, place, got, e)
			}
			if got, e := scale.Loss(x.s, x.r, place); got != 0 || e != api.ErrArg {
				t.Errorf("%d: Loss(%v, %v, %d) = %d, %d", i, x.s, x.r, place, got, e)
			}
		}
	}
}

func TestBetween(t *testing.T) { // P2.7
	for i, x := range []struct {
		s        api.ScaleStem
		r, other api.ScaleRule
		lo, hi   int64
	}{
		{stemS(), ruleR(), ruleQ(), 96, 96}, // the examples of the chapter
		{stemS(), ruleR(), ruleR(), 24, 24},
		{stemF(), ruleR(), rule(4, 4, 4, 0, 4, 4, 6), 0, 16}, // logs that are not right by it scale 0
		{stemF(), ruleR(), rule(2, 2, 2, 0, 4, 4, 6), 0, 16},
		{stemF(), ruleR(), rule(2, 2, 2, 0, 5, 3, 8), 0, 12},
		{stemF(), ruleR(), rule(2, 4, 2, 1, 4, 4, 6), 0, 0},
		{stemF(), ruleR(), rule(2, 4, 2, 0, 3, 4, 8), 24, 25}, // 12 and 12, or 25 of four feet
		{stem(3, 3), ruleR(), each(), 0, 0},                   // no log is right by the first rule
		{stem(8, 8), oneFoot(), rule(1, 1, 1, 0, 9, 1, 0), 0, 0},
		{even(3, 8), rule(2, 2, 1, 0, 4, 4, 6), rule(1, 2, 1, 0, 4, 4, 6), 8, 8}, // waste is waste, even if it were a right log by the other one
		{stem(9, 9, 8, 4), rule(1, 1, 1, 0, 7, 1, 0), each(), 145, 145},
	} {
		if got, e := scale.Between(x.s, x.r, x.other); got != (api.Range{Lo: x.lo, Hi: x.hi}) || e != api.OK {
			t.Errorf("%d: Between(%v, %v, %v) = %v, %d, want %d to %d", i, x.s, x.r, x.other, got, e, x.lo, x.hi)
		}
	}
}
