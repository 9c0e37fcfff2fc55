package scale_test

import (
	"iter"
	"math"
	"math/rand/v2"
	"reflect"
	"slices"
	"testing"

	"peavey/api"
	"peavey/scale"
)

// The definitions of the chapter, word for word, with nothing that the package computes.

// scales returns what a log scales, and whether it is right.
func scales(s api.ScaleStem, r api.ScaleRule, log api.ScaleLog) (int64, bool) {
	length := int64(log.To - log.From - r.Trim)
	thicker := s.Thick[log.To] - r.Off
	if thicker < 0 {
		thicker = 0
	}
	feet := int64(math.Floor(float64(thicker*thicker*length) / float64(r.Div)))
	right := length >= int64(r.Least) && length <= int64(r.Most) && length%int64(r.Step) == 0 && s.Thick[log.To] >= r.Thin && feet >= 1
	for _, foot := range s.Bad {
		if log.From <= foot && foot+1 <= log.To {
			right = false
		}
	}
	return feet, right
}

// rightLogs returns all right logs of a stem.
func rightLogs(s api.ScaleStem, r api.ScaleRule) []api.ScaleLog {
	var l []api.ScaleLog
	for from := range s.Thick {
		for to := from + 1; to < len(s.Thick); to++ {
			log := api.ScaleLog{From: from, To: to}
			if _, right := scales(s, r, log); right {
				l = append(l, log)
			}
		}
	}
	return l
}

// cuttings yields all cuttings of right logs.
func cuttings(right []api.ScaleLog) iter.Seq[[]api.ScaleLog] {
	return func(yield func([]api.ScaleLog) bool) {
		var longer func(cutting []api.ScaleLog, end int) bool
		longer = func(cutting []api.ScaleLog, end int) bool {
			if !yield(cutting) {
				return false
			}
			for _, log := range right {
				if log.From >= end && !longer(append(slices.Clone(cutting), log), log.To) {
					return false
				}
			}
			return true
		}
		longer(nil, 0)
	}
}

// sum returns what a cutting scales by a rule, where a log that is not right by it scales 0.
func sum(s api.ScaleStem, r api.ScaleRule, cutting []api.ScaleLog) int64 {
	var all int64
	for _, log := range cutting {
		if feet, right := scales(s, r, log); right {
			all += feet
		}
	}
	return all
}

func isCut(cutting []api.ScaleLog, place int) bool {
	return slices.ContainsFunc(cutting, func(log api.ScaleLog) bool { return log.From == place || log.To == place })
}

func isInside(cutting []api.ScaleLog, place int) bool {
	return slices.ContainsFunc(cutting, func(log api.ScaleLog) bool { return log.From < place && place < log.To })
}

// bestOf returns what a best one of all cuttings scales, and all best ones.
func bestOf(s api.ScaleStem, r api.ScaleRule) (int64, [][]api.ScaleLog) {
	best, all := int64(-1), [][]api.ScaleLog(nil)
	for cutting := range cuttings(rightLogs(s, r)) {
		switch n := sum(s, r, cutting); {
		case n > best:
			best, all = n, [][]api.ScaleLog{cutting}
		case n == best:
			all = append(all, cutting)
		}
	}
	return best, all
}

// kindOf returns how often a place is cut in best cuttings.
func kindOf(best [][]api.ScaleLog, place int) int {
	cut := 0
	for _, cutting := range best {
		if isCut(cutting, place) {
			cut++
		}
	}
	switch cut {
	case 0:
		return api.ScaleNever
	case len(best):
		return api.ScaleAlways
	}
	return api.ScaleMay
}

// lossOf returns what a best cutting scales, less the most that a cutting scales in which the place is not inside.
func lossOf(s api.ScaleStem, r api.ScaleRule, best int64, place int) int64 {
	most := int64(-1)
	for cutting := range cuttings(rightLogs(s, r)) {
		if !isInside(cutting, place) {
			most = max(most, sum(s, r, cutting))
		}
	}
	return best - most
}

// arePricesRight reports whether prices from 0 to MaxNumber are right.
func arePricesRight(s api.ScaleStem, r api.ScaleRule, prices []int64) bool {
	for i := 1; i < len(prices); i++ {
		if prices[i-1] < prices[i] {
			return false
		}
	}
	for _, log := range rightLogs(s, r) {
		if feet, _ := scales(s, r, log); prices[log.From] < prices[log.To]+feet {
			return false
		}
	}
	return true
}

// Stems and rules to test.

// someRules are rules that differ in each number.
func someRules() []api.ScaleRule {
	return []api.ScaleRule{
		rule(1, 1, 1, 0, 0, 1, 0), rule(1, 60, 1, 0, 0, 4, 0), rule(2, 4, 2, 0, 1, 2, 2), rule(1, 3, 1, 1, 0, 3, 2),
		rule(2, 2, 1, 0, 0, 1, 3), rule(1, 2, 1, 0, 0, 7, 0), rule(2, 60, 3, 0, 1, 1, 0), rule(1, 4, 2, 2, 0, 2, 0),
		rule(1, 60, 1, 0, 2, 1, 0), rule(3, 60, 1, 0, 0, 9, 0),
	}
}

// smallStems yields all stems of up to so many places that are 0, 2 or 3 inches thick, with all lists of bad feet.
func smallStems(places int) iter.Seq[api.ScaleStem] {
	return func(yield func(api.ScaleStem) bool) {
		var longer func(thick []int64) bool
		longer = func(thick []int64) bool {
			for set := 0; len(thick) >= 2 && set < 1<<(len(thick)-1); set++ {
				if !yield(api.ScaleStem{Thick: slices.Clone(thick), Bad: setBits(set)}) {
					return false
				}
			}
			for _, next := range longs(3, 2, 0) {
				fits := len(thick) < places && (len(thick) == 0 || next <= thick[len(thick)-1])
				if fits && !longer(append(slices.Clone(thick), next)) {
					return false
				}
			}
			return true
		}
		longer(nil)
	}
}

func setBits(set int) []int {
	var l []int
	for i := 0; set>>i > 0; i++ {
		if set>>i&1 == 1 {
			l = append(l, i)
		}
	}
	return l
}

func randomStem(r *rand.Rand, places int) api.ScaleStem {
	var s api.ScaleStem
	steep := 1 + r.IntN(3)
	thick := r.Int64N(25)
	for range places {
		s.Thick = append(s.Thick, thick)
		if r.IntN(3) == 0 {
			thick = max(0, thick-r.Int64N(int64(steep)+1))
		}
	}
	often := 1 + r.IntN(12)
	for foot := range places - 1 {
		if r.IntN(12) > often {
			s.Bad = append(s.Bad, foot)
		}
	}
	return s
}

func randomRule(r *rand.Rand) api.ScaleRule {
	least := 1 + r.IntN(4)
	return rule(least, least+r.IntN(6), 1+r.IntN(3), r.IntN(3), r.Int64N(6), 1+r.Int64N(30), r.Int64N(10))
}

// cases yields small stems with two rules each: all of up to five places, and some of up to eight.
func cases() iter.Seq2[api.ScaleStem, [2]api.ScaleRule] {
	return func(yield func(api.ScaleStem, [2]api.ScaleRule) bool) {
		rules := someRules()
		n := 0
		for s := range smallStems(5) {
			n++
			for i, r := range rules {
				if !yield(s, [2]api.ScaleRule{r, rules[(i+n)%len(rules)]}) {
					return
				}
			}
		}
		r := rand.New(rand.NewPCG(2, 2))
		for range 4000 {
			if !yield(randomStem(r, 2+r.IntN(7)), [2]api.ScaleRule{randomRule(r), randomRule(r)}) {
				return
			}
		}
	}
}

// must returns a result whose error is OK.
func must[T any](t *testing.T, x T, e api.Errno) T {
	t.Helper()
	if e != api.OK {
		t.Fatalf("error %d", e)
	}
	return x
}

func best(t *testing.T, s api.ScaleStem, r api.ScaleRule) int64 {
	t.Helper()
	n, e := scale.Best(s, r)
	return must(t, n, e)
}

// Each function does what its definition says.

func TestFeetAgainstDefinition(t *testing.T) { // P2.2
	for s, rules := range cases() {
		for from := range s.Thick {
			for to := from + 1; to < len(s.Thick); to++ {
				log := api.ScaleLog{From: from, To: to}
				got, e := scale.Feet(s, rules[0], log)
				want, right := scales(s, rules[0], log)
				if right && (got != want || e != api.OK) || !right && (got != 0 || e != api.ErrCut) {
					t.Fatalf("Feet(%v, %v, %v) = %d, %d, want %d, %v", s, rules[0], log, got, e, want, right)
				}
			}
		}
	}
}

func TestBestAgainstDefinition(t *testing.T) { // P2.3 to P2.8, P2.12, P2.13
	for s, rules := range cases() {
		r, other := rules[0], rules[1]
		most, all := bestOf(s, r)
		if got := best(t, s, r); got != most {
			t.Fatalf("Best(%v, %v) = %d, want %d", s, r, got, most)
		}
		cut, e := scale.Cut(s, r)
		if !slices.ContainsFunc(all, func(c []api.ScaleLog) bool { return slices.Equal(c, must(t, cut, e)) }) {
			t.Fatalf("Cut(%v, %v) = %v, not one of %v", s, r, cut, all)
		}
		prices, e := scale.Prices(s, r)
		if len(must(t, prices, e)) != len(s.Thick) || prices[0] != most || slices.Min(prices) < 0 || !arePricesRight(s, r, prices) {
			t.Fatalf("Prices(%v, %v) = %v", s, r, prices)
		}
		count, e := scale.Count(s, r)
		if must(t, count, e) != int64(len(all)) {
			t.Fatalf("Count(%v, %v) = %d, want %d", s, r, count, len(all))
		}
		for place := range s.Thick {
			kind, e := scale.Kind(s, r, place)
			if want := kindOf(all, place); must(t, kind, e) != want {
				t.Fatalf("Kind(%v, %v, %d) = %d, want %d", s, r, place, kind, want)
			}
			loss, e := scale.Loss(s, r, place)
			if want := lossOf(s, r, most, place); must(t, loss, e) != want {
				t.Fatalf("Loss(%v, %v, %d) = %d, want %d", s, r, place, loss, want)
			}
			spared := slices.ContainsFunc(all, func(c []api.ScaleLog) bool { return !isInside(c, place) })
			if (loss == 0) != spared || kind != api.ScaleNever && loss != 0 {
				t.Fatalf("%v, %v: place %d has the kind %d and the loss %d; inside no log of some best cutting: %v", s, r, place, kind, loss, spared)
			}
		}
		var want api.Range
		for i, c := range all {
			n := sum(s, other, c)
			if i == 0 {
				want = api.Range{Lo: n, Hi: n}
			}
			want = api.Range{Lo: min(want.Lo, n), Hi: max(want.Hi, n)}
		}
		between, e := scale.Between(s, r, other)
		if must(t, between, e) != want {
			t.Fatalf("Between(%v, %v, %v) = %v, want %v", s, r, other, between, want)
		}
	}
}

func TestCheckCutAgainstDefinition(t *testing.T) { // P2.3, P2.8
	r := rand.New(rand.NewPCG(2, 3))
	for s, rules := range cases() {
		most := best(t, s, rules[0])
		for c := range cuttings(rightLogs(s, rules[0])) {
			got, e := scale.CheckCut(s, rules[0], c)
			if got != sum(s, rules[0], c) || e != api.OK || got > most {
				t.Fatalf("CheckCut(%v, %v, %v) = %d, %d, want %d; Best is %d", s, rules[0], c, got, e, sum(s, rules[0], c), most)
			}
			if r.IntN(4) == 0 {
				break
			}
		}
	}
}

func TestCheckPricesAgainstDefinition(t *testing.T) { // P2.4, P2.8
	r := rand.New(rand.NewPCG(2, 4))
	right := 0
	for s, rules := range cases() {
		prices, e := scale.Prices(s, rules[0])
		for range 3 {
			other := slices.Clone(must(t, prices, e))
			for i := range other {
				other[i] = max(0, other[i]+[]int64{0, 0, 0, 1, -1, 3}[r.IntN(6)])
			}
			want := api.ErrSum
			if arePricesRight(s, rules[0], other) {
				want = api.OK
				right++
			}
			got, e := scale.CheckPrices(s, rules[0], other)
			if e != want || e == api.OK && (got != other[0] || got < best(t, s, rules[0])) || e != api.OK && got != 0 {
				t.Fatalf("CheckPrices(%v, %v, %v) = %d, %d, want %d", s, rules[0], other, got, e, want)
			}
		}
	}
	if right < 100 {
		t.Error("hardly any prices were right:", right)
	}
}

// The properties of the chapter.

// split cuts a stem into two at a place.
func split(s api.ScaleStem, place int) (api.ScaleStem, api.ScaleStem) {
	one, two := api.ScaleStem{Thick: s.Thick[:place+1]}, api.ScaleStem{Thick: s.Thick[place:]}
	for _, foot := range s.Bad {
		if foot < place {
			one.Bad = append(one.Bad, foot)
		} else {
			two.Bad = append(two.Bad, foot-place)
		}
	}
	return one, two
}

// longerCases yields what cases does, and stems of up to 61 places.
func longerCases() iter.Seq2[api.ScaleStem, [2]api.ScaleRule] {
	return func(yield func(api.ScaleStem, [2]api.ScaleRule) bool) {
		for s, rules := range cases() {
			if !yield(s, rules) {
				return
			}
		}
		r := rand.New(rand.NewPCG(2, 5))
		for range 60 {
			if !yield(randomStem(r, 9+r.IntN(53)), [2]api.ScaleRule{randomRule(r), randomRule(r)}) {
				return
			}
		}
	}
}

func TestSplit(t *testing.T) { // P2.9
	for s, rules := range longerCases() {
		for place := 1; place < len(s.Thick)-1; place++ {
			one, two := split(s, place)
			loss, e := scale.Loss(s, rules[0], place)
			if got, want := best(t, one, rules[0])+best(t, two, rules[0]), best(t, s, rules[0])-must(t, loss, e); got != want {
				t.Fatalf("%v, %v: in two at %d it scales %d, not %d", s, rules[0], place, got, want)
			}
		}
	}
}

func TestThicker(t *testing.T) { // P2.10
	r := rand.New(rand.NewPCG(2, 6))
	for s, rules := range longerCases() {
		least := best(t, s, rules[0])
		thicker := withBad(stem(slices.Clone(s.Thick)...), s.Bad...)
		for i := len(s.Thick) - 1; i >= 0; i-- {
			thicker.Thick[i] += r.Int64N(3)
			if i+1 < len(s.Thick) {
				thicker.Thick[i] = max(thicker.Thick[i], thicker.Thick[i+1])
			}
		}
		if got := best(t, thicker, rules[0]); got < least {
			t.Fatalf("%v, %v: as thick as %v it scales less, %d", s, rules[0], thicker.Thick, got)
		}
		worse := withBad(s, append(slices.Clone(s.Bad), r.IntN(len(s.Thick)-1))...)
		slices.Sort(worse.Bad)
		worse.Bad = slices.Compact(worse.Bad)
		if got := best(t, worse, rules[0]); got > least {
			t.Fatalf("%v, %v: with %v bad it scales more, %d", s, rules[0], worse.Bad, got)
		}
		if len(s.Thick) == api.MaxScalePlaces {
			continue
		}
		longer := stem(append(longs(s.Thick[0]+r.Int64N(3)), s.Thick...)...)
		for _, foot := range s.Bad {
			longer.Bad = append(longer.Bad, foot+1)
		}
		if got := best(t, longer, rules[0]); got < least {
			t.Fatalf("%v, %v: with a foot more at the stump it scales less, %d", s, rules[0], got)
		}
	}
}

func TestDearer(t *testing.T) { // P2.11
	for s, rules := range longerCases() {
		r := rules[0]
		is := best(t, s, r)
		for i, x := range []struct {
			change func(r *api.ScaleRule)
			less   bool
		}{
			{func(r *api.ScaleRule) { r.Least = max(1, r.Least-1) }, false},
			{func(r *api.ScaleRule) { r.Most = min(60, r.Most+1) }, false},
			{func(r *api.ScaleRule) { r.Off++ }, true},
			{func(r *api.ScaleRule) { r.Div++ }, true},
			{func(r *api.ScaleRule) { r.Thin++ }, true},
		} {
			other := r
			x.change(&other)
			if got := best(t, s, other); x.less && got > is || !x.less && got < is {
				t.Fatalf("%d: %v scales %d by %v, %d by %v", i, s, is, r, got, other)
			}
		}
	}
}

func TestCutLosesNothing(t *testing.T) { // P2.12
	for s, rules := range longerCases() {
		for place := range s.Thick {
			kind, e := scale.Kind(s, rules[0], place)
			loss, f := scale.Loss(s, rules[0], place)
			if must(t, kind, e) != api.ScaleNever && must(t, loss, f) != 0 {
				t.Fatalf("%v, %v: place %d has the kind %d and the loss %d", s, rules[0], place, kind, loss)
			}
		}
	}
}

func TestBetweenTwoRules(t *testing.T) { // P2.13
	for s, rules := range longerCases() {
		r, other := rules[0], rules[1]
		cut, e := scale.Cut(s, r)
		by := sum(s, other, must(t, cut, e))
		between, e := scale.Between(s, r, other)
		if must(t, between, e).Lo > by || by > between.Hi || between.Hi > best(t, s, other) {
			t.Fatalf("%v: the cutting %v by %v scales %d by %v, not within %v, or more than a best one", s, cut, r, by, other, between)
		}
		same, e := scale.Between(s, r, r)
		if is := best(t, s, r); must(t, same, e) != (api.Range{Lo: is, Hi: is}) {
			t.Fatalf("%v, %v: by the same rule it is %v, not %d", s, r, same, is)
		}
	}
}

func TestWaste(t *testing.T) { // P2.14
	for s, rules := range cases() {
		right := rightLogs(s, rules[0])
		for foot := range len(s.Thick) - 1 {
			if slices.ContainsFunc(right, func(log api.ScaleLog) bool { return log.From <= foot && foot < log.To }) || slices.Contains(s.Bad, foot) {
				continue
			}
			worse := withBad(s, append(slices.Clone(s.Bad), foot)...)
			slices.Sort(worse.Bad)
			is, got := results(s, rules[0], rules[1], 0, 0, nil, nil), results(worse, rules[0], rules[1], 0, 0, nil, nil)
			if !reflect.DeepEqual(is, got) {
				t.Fatalf("%v, %v: with %d bad, too, it is %v, not %v", s, rules[0], foot, got, is)
			}
		}
	}
}

// The rules of DOC.md.

// results returns what all functions return for these arguments, and for all places.
func results(s api.ScaleStem, r, other api.ScaleRule, n, k int, logs []api.ScaleLog, prices []int64) []any {
	var out []any
	add := func(x ...any) { out = append(out, x...) }
	add(scale.CheckStem(s), scale.CheckRule(r))
	feet, e := scale.Feet(s, r, api.ScaleLog{From: n, To: k})
	add(feet, e)
	sum, e := scale.CheckCut(s, r, logs)
	add(sum, e)
	best, e := scale.Best(s, r)
	add(best, e)
	cut, e := scale.Cut(s, r)
	add(cut, e)
	price, e := scale.CheckPrices(s, r, prices)
	add(price, e)
	least, e := scale.Prices(s, r)
	add(least, e)
	count, e := scale.Count(s, r)
	add(count, e)
	for _, place := range append(list(n, k), setBits(1<<min(len(s.Thick), 12)-1)...) {
		kind, e := scale.Kind(s, r, place)
		add(kind, e)
		loss, e := scale.Loss(s, r, place)
		add(loss, e)
	}
	between, e := scale.Between(s, r, other)
	add(between, e)
	return out
}

// overwrite writes over all that a result reaches.
func overwrite[T any](l []T, x T) {
	for i := range l[:cap(l)] {
		l[:cap(l)][i] = x
	}
}

func TestNothingSharedNorChanged(t *testing.T) { // R4, R9, R10
	for _, x := range []struct {
		s api.ScaleStem
		r api.ScaleRule
	}{{stemS(), ruleR()}, {stemB(), ruleR()}, {stemF(), ruleR()}, {even(20, 8), each()}} {
		s := withBad(stem(slices.Clone(x.s.Thick)...), slices.Clone(x.s.Bad)...)
		cutting, prices := logs(0, 2, 2, 4), longs(24, 12, 12, 4, 4, 0, 0)
		want := results(s, x.r, ruleQ(), 1, 3, cutting, prices)
		for _, y := range results(s, x.r, ruleQ(), 1, 3, cutting, prices) {
			switch l := y.(type) {
			case []api.ScaleLog:
				overwrite(l, api.ScaleLog{From: -9, To: -9})
			case []int64:
				overwrite(l, -9)
			}
		}
		if !slices.Equal(s.Thick, x.s.Thick) || !slices.Equal(s.Bad, x.s.Bad) || !slices.Equal(cutting, logs(0, 2, 2, 4)) || !slices.Equal(prices, longs(24, 12, 12, 4, 4, 0, 0)) {
			t.Error("arguments are changed:", s, cutting, prices)
		}
		for range 20 {
			if got := results(s, x.r, ruleQ(), 1, 3, cutting, prices); !reflect.DeepEqual(got, want) {
				t.Fatalf("another result: %v, not %v", got, want)
			}
		}
	}
}

func TestNilIsEmpty(t *testing.T) { // R3
	a := results(stem(9, 9, 9), ruleR(), ruleQ(), 0, 2, nil, nil)
	b := results(withBad(stem(9, 9, 9), []int{}...), ruleR(), ruleQ(), 0, 2, []api.ScaleLog{}, []int64{})
	c := results(api.ScaleStem{Thick: longs(9, 9, 9), Bad: []int{}}, ruleR(), ruleQ(), 0, 2, []api.ScaleLog{}, []int64{})
	if !reflect.DeepEqual(a, b) || !reflect.DeepEqual(a, c) {
		t.Errorf("%v with nil, %v and %v with empty lists", a, b, c)
	}
	if e := scale.CheckStem(api.ScaleStem{Thick: []int64{}, Bad: []int{}}); e != api.ErrMany {
		t.Error(e)
	}
}

func TestAnyArguments(t *testing.T) { // P1, R5
	numbers := list(math.MinInt, math.MinInt+1, -1, 0, 1, 2, 7, 60, 61, 1<<32, math.MaxInt-1, math.MaxInt)
	for _, a := range numbers {
		for _, b := range numbers {
			for _, c := range numbers {
				x, y, z := int64(a), int64(b), int64(c)
				results(stemB(), ruleR(), ruleQ(), a, b, logs(a, b, b, c), longs(x, y, z, 0, 0, 0, 0))
				results(stem(x, y, z), ruleR(), ruleQ(), a, b, logs(0, 2), longs(x, y, z))
				results(withBad(stemS(), a, b, c), rule(1, 60, 1, 0, 0, 1, 0), ruleQ(), a, b, logs(a, b, 0, c), nil)
				results(stemS(), rule(a, b, c, a, x, y, z), ruleQ(), a, b, logs(a, b), nil)
				results(stemS(), rule(1, 60, 1, a, x, y, 0), rule(a, b, 1, 0, 0, z, 0), c, b, logs(0, 1), nil)
			}
		}
	}
}

// At the limits of the chapter all calls end soon.
func TestLimits(t *testing.T) {
	rules := append(someRules(), each(), rule(60, 60, 10, 5, 20, 100, 60), rule(1, 60, 1, 0, 0, 100, 0))
	for _, s := range []api.ScaleStem{even(60, 60), even(60, 1), even(60, 0), withBad(even(60, 60), 30)} {
		for _, r := range rules {
			results(s, r, rules[0], 0, 60, logs(0, 60), make([]int64, 61))
		}
	}
}
