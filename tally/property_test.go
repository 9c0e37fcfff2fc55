package tally_test

import (
	"fmt"
	"iter"
	"math"
	"math/rand/v2"
	"reflect"
	"slices"
	"sync"
	"testing"

	"peavey/api"
	"peavey/tally"
)

// The definitions of the chapter, word for word, with nothing that the package computes.

// cellOf returns the index of the cell of an owner and a pocket.
func cellOf(s api.TallySheet, owner, pocket int) int { return owner*len(s.Pockets) + pocket }

// ofOwner, ofPocket and ofAll return the sums that tallies are about.
func ofOwner(s api.TallySheet, table []int64, owner int) int64 {
	var sum int64
	for pocket := range s.Pockets {
		sum += table[cellOf(s, owner, pocket)]
	}
	return sum
}

func ofPocket(s api.TallySheet, table []int64, pocket int) int64 {
	var sum int64
	for owner := range s.Owners {
		sum += table[cellOf(s, owner, pocket)]
	}
	return sum
}

func ofAll(table []int64) int64 {
	var sum int64
	for _, n := range table {
		sum += n
	}
	return sum
}

// wrongBy returns by how much a tally is wrong with a sum.
func wrongBy(r api.Range, sum int64) int64 {
	switch {
	case sum < r.Lo:
		return r.Lo - sum
	case sum > r.Hi:
		return sum - r.Hi
	}
	return 0
}

// wrongOf returns by how much a table is wrong.
func wrongOf(s api.TallySheet, table []int64) int64 {
	wrong := wrongBy(s.All, ofAll(table))
	for owner, r := range s.Owners {
		wrong += wrongBy(r, ofOwner(s, table, owner))
	}
	for pocket, r := range s.Pockets {
		wrong += wrongBy(r, ofPocket(s, table, pocket))
	}
	return wrong
}

// isTable reports whether a list is a table.
func isTable(s api.TallySheet, list []int64) bool {
	if len(list) != len(s.Cells) {
		return false
	}
	for cell, r := range s.Cells {
		if list[cell] < r.Lo || list[cell] > r.Hi {
			return false
		}
	}
	return true
}

// tablesOf yields all tables.
func tablesOf(s api.TallySheet) iter.Seq[[]int64] {
	return func(yield func([]int64) bool) {
		var table []int64
		for _, r := range s.Cells {
			table = append(table, r.Lo)
		}
		for yield(slices.Clone(table)) {
			cell := 0
			for cell < len(table) && table[cell] == s.Cells[cell].Hi {
				table[cell] = s.Cells[cell].Lo
				cell++
			}
			if cell == len(table) {
				return
			}
			table[cell]++
		}
	}
}

// boundOf returns the bound of weights.
func boundOf(s api.TallySheet, weights []int) int64 {
	var bound int64
	for i, r := range slices.Concat(s.Owners, s.Pockets, all(s.All)) {
		switch weights[i] {
		case 1:
			bound += r.Lo
		case -1:
			bound += r.Hi * -1
		}
	}
	for owner := range s.Owners {
		for pocket := range s.Pockets {
			sum := int64(weights[owner] + weights[len(s.Owners)+pocket] + weights[len(weights)-1])
			r := s.Cells[cellOf(s, owner, pocket)]
			least := int64(math.MaxInt64)
			for n := r.Lo; n <= r.Hi; n++ {
				least = min(least, n*sum*-1)
			}
			bound += least
		}
	}
	return bound
}

// areWeights reports whether a list is weights.
func areWeights(s api.TallySheet, list []int) bool {
	isNone := func(w int) bool { return w != -1 && w != 0 && w != 1 }
	return len(list) == len(s.Owners)+len(s.Pockets)+1 && !slices.ContainsFunc(list, isNone)
}

// weightsOf yields all weights.
func weightsOf(s api.TallySheet) iter.Seq[[]int] {
	return func(yield func([]int) bool) {
		weights := slices.Repeat(list(-1), len(s.Owners)+len(s.Pockets)+1)
		for yield(slices.Clone(weights)) {
			i := slices.IndexFunc(weights, func(w int) bool { return w < 1 })
			if i < 0 {
				return
			}
			weights[i]++
			for j := range i {
				weights[j] = -1
			}
		}
	}
}

// told is what the tables of a sheet tell.
type told struct {
	off   int64
	spans []api.Range
	sum   api.Range
	sure  []int
}

// tell looks at all tables.
func tell(s api.TallySheet) told {
	x := told{off: math.MaxInt64, sum: to(math.MaxInt64, 0), spans: same(len(s.Cells), to(math.MaxInt64, 0))}
	add := func(r *api.Range, n int64) { r.Lo, r.Hi = min(r.Lo, n), max(r.Hi, n) }
	for table := range tablesOf(s) {
		wrong := wrongOf(s, table)
		x.off = min(x.off, wrong)
		if wrong > 0 {
			continue
		}
		add(&x.sum, ofAll(table))
		for cell, n := range table {
			add(&x.spans[cell], n)
		}
	}
	for cell, r := range x.spans {
		if r.Lo == r.Hi {
			x.sure = append(x.sure, cell)
		}
	}
	return x
}

// Sheets to test.

// rangesUpTo are all ranges with ends from 0 to most.
func rangesUpTo(most int64) []api.Range {
	var l []api.Range
	for lo := range most + 1 {
		for hi := lo; hi <= most; hi++ {
			l = append(l, to(lo, hi))
		}
	}
	return l
}

// every yields all sheets with so many owners and pockets and ends up to most.
func every(owners, pockets int, most int64) iter.Seq[api.TallySheet] {
	return func(yield func(api.TallySheet) bool) {
		ranges := rangesUpTo(most)
		at := make([]int, owners+pockets+1+owners*pockets)
		for {
			var l []api.Range
			for _, i := range at {
				l = append(l, ranges[i])
			}
			if !yield(sheet(l[:owners], l[owners:owners+pockets], l[owners+pockets], l[owners+pockets+1:]...)) {
				return
			}
			i := slices.IndexFunc(at, func(i int) bool { return i < len(ranges)-1 })
			if i < 0 {
				return
			}
			at[i]++
			clear(at[:i])
		}
	}
}

// around returns a range about a number, with ends up to 1,000.
func around(r *rand.Rand, n, slack int64) api.Range {
	lo := max(0, n-r.Int64N(slack+1))
	return to(min(lo, 1000), min(n+r.Int64N(slack+1), 1000))
}

// between returns any range with ends up to most.
func between(r *rand.Rand, most int64) api.Range {
	one, two := r.Int64N(most+1), r.Int64N(most+1)
	return to(min(one, two), max(one, two))
}

// about returns a sheet with ranges about a table, so that at least this has the tallies, if no sum is beyond 1,000.
func about(r *rand.Rand, owners, pockets int, most, cellSlack, tallySlack int64) api.TallySheet {
	s := sheet(make([]api.Range, owners), make([]api.Range, pockets), any1000(), make([]api.Range, owners*pockets)...)
	table := make([]int64, owners*pockets)
	for cell := range table {
		table[cell] = r.Int64N(most + 1)
		s.Cells[cell] = around(r, table[cell], cellSlack)
	}
	for owner := range owners {
		s.Owners[owner] = around(r, ofOwner(s, table, owner), tallySlack)
	}
	for pocket := range pockets {
		s.Pockets[pocket] = around(r, ofPocket(s, table, pocket), tallySlack)
	}
	s.All = around(r, ofAll(table), tallySlack)
	return s
}

// parts returns all ranges of a sheet, to change them: first those of the tallies.
func parts(s *api.TallySheet) []*api.Range {
	var l []*api.Range
	for _, ranges := range [][]api.Range{s.Owners, s.Pockets} {
		for i := range ranges {
			l = append(l, &ranges[i])
		}
	}
	l = append(l, &s.All)
	for i := range s.Cells {
		l = append(l, &s.Cells[i])
	}
	return l
}

// copyOf returns a sheet with lists of its own.
func copyOf(s api.TallySheet) api.TallySheet {
	s.Owners, s.Pockets, s.Cells = slices.Clone(s.Owners), slices.Clone(s.Pockets), slices.Clone(s.Cells)
	return s
}

// random yields so many sheets of up to so many owners and pockets; of half of them some ranges are any ones.
func random(seed uint64, many, owners, pockets int, most, cellSlack int64) iter.Seq[api.TallySheet] {
	return func(yield func(api.TallySheet) bool) {
		r := rand.New(rand.NewPCG(seed, 11))
		for i := range many {
			s := about(r, 1+r.IntN(owners), 1+r.IntN(pockets), most, cellSlack, longs(0, 1, 2, most)[r.IntN(4)])
			l := parts(&s)[:len(s.Owners)+len(s.Pockets)+1]
			for range i % 2 * (1 + r.IntN(len(l))) {
				*l[r.IntN(len(l))] = between(r, min(1000, 2*most+2*cellSlack))
			}
			if !yield(s) {
				return
			}
		}
	}
}

// few reports whether a sheet has few tables.
func few(s api.TallySheet) bool {
	many := int64(1)
	for _, r := range s.Cells {
		if many *= r.Hi - r.Lo + 1; many > 3000 {
			return false
		}
	}
	return true
}

// small yields sheets with few tables: all with one cell and small ends, all with two cells and ends up to 1, and random ones.
func small(seed uint64, many int) iter.Seq[api.TallySheet] {
	return func(yield func(api.TallySheet) bool) {
		for _, source := range []iter.Seq[api.TallySheet]{
			every(1, 1, 2), every(2, 1, 1), every(1, 2, 1),
			random(seed, many, 2, 2, 3, 3), random(seed+1, many, 3, 3, 2, 1), random(seed+2, many/4, 5, 5, 1, 1), random(seed+3, many/4, 5, 2, 9, 2),
		} {
			for s := range source {
				if few(s) && !yield(s) {
					return
				}
			}
		}
	}
}

// large yields sheets with many tables, up to the limits.
func large(seed uint64, many int) iter.Seq[api.TallySheet] {
	return func(yield func(api.TallySheet) bool) {
		for _, x := range knownSheets() {
			if !yield(x.s) {
				return
			}
		}
		for _, source := range []iter.Seq[api.TallySheet]{random(seed, many, 5, 5, 30, 20), random(seed+1, many, 5, 5, 5, 3), random(seed+2, many, 5, 5, 40, 1000), random(seed+3, many, 4, 4, 300, 9)} {
			for s := range source {
				if !yield(s) {
					return
				}
			}
		}
	}
}

// sheets yields the sheets of both.
func sheets(seed uint64, many int) iter.Seq[api.TallySheet] {
	return func(yield func(api.TallySheet) bool) {
		for _, source := range []iter.Seq[api.TallySheet]{small(seed, many), large(seed+10, many/8)} {
			for s := range source {
				if !yield(s) {
					return
				}
			}
		}
	}
}

// randomTable returns a table.
func randomTable(r *rand.Rand, s api.TallySheet) []int64 {
	var table []int64
	for _, x := range s.Cells {
		table = append(table, x.Lo+r.Int64N(x.Hi-x.Lo+1))
	}
	return table
}

// randomWeights returns weights.
func randomWeights(r *rand.Rand, s api.TallySheet) []int {
	var weights []int
	for range len(s.Owners) + len(s.Pockets) + 1 {
		weights = append(weights, r.IntN(3)-1)
	}
	return weights
}

// The functions, for arguments that are right.

func must[T any](t *testing.T, x T, e api.Errno) T {
	t.Helper()
	if e != api.OK {
		t.Fatalf("error %d", e)
	}
	return x
}

func wrong(t *testing.T, s api.TallySheet, table []int64) int64 {
	t.Helper()
	n, e := tally.Wrong(s, table)
	return must(t, n, e)
}

func off(t *testing.T, s api.TallySheet) int64 {
	t.Helper()
	n, e := tally.Off(s)
	return must(t, n, e)
}

func tableOf(t *testing.T, s api.TallySheet) []int64 {
	t.Helper()
	l, e := tally.Table(s)
	return must(t, l, e)
}

func bound(t *testing.T, s api.TallySheet, weights []int) int64 {
	t.Helper()
	n, e := tally.CheckWeights(s, weights)
	return must(t, n, e)
}

func best(t *testing.T, s api.TallySheet) []int {
	t.Helper()
	l, e := tally.Weights(s)
	return must(t, l, e)
}

// spans returns the spans of all cells; nil if no table has the tallies.
func spans(t *testing.T, s api.TallySheet) []api.Range {
	t.Helper()
	var l []api.Range
	for owner := range s.Owners {
		for pocket := range s.Pockets {
			r, e := tally.Span(s, owner, pocket)
			if e == api.ErrTally && len(l) == 0 {
				return nil
			}
			l = append(l, must(t, r, e))
		}
	}
	return l
}

// fixed returns a sheet with one number in a cell.
func fixed(s api.TallySheet, cell int, n int64) api.TallySheet {
	s = copyOf(s)
	s.Cells[cell] = just(n)
	return s
}

// Each function against its definition.

func TestWrongAgainstDefinition(t *testing.T) { // P11.2
	for s := range small(112, 200) {
		for table := range tablesOf(s) {
			if n, want := wrong(t, s, table), wrongOf(s, table); n != want {
				t.Fatalf("Wrong(%v, %v) = %d, want %d", s, table, n, want)
			}
		}
	}
	r := rand.New(rand.NewPCG(112, 11))
	for s := range large(1120, 200) {
		for range 5 {
			table := randomTable(r, s)
			if n, want := wrong(t, s, table), wrongOf(s, table); n != want {
				t.Fatalf("Wrong(%v, %v) = %d, want %d", s, table, n, want)
			}
		}
	}
}

func TestOffAndTableAgainstDefinition(t *testing.T) { // P11.3
	for s := range small(113, 1600) {
		want := tell(s).off
		if n := off(t, s); n != want {
			t.Fatalf("Off(%v) = %d, want %d", s, n, want)
		}
		if table := tableOf(t, s); !isTable(s, table) || wrongOf(s, table) != want {
			t.Fatalf("Table(%v) = %v, want one that is wrong by %d", s, table, want)
		}
	}
}

func TestCheckWeightsAgainstDefinition(t *testing.T) { // P11.4
	for s := range small(114, 60) {
		for weights := range weightsOf(s) {
			if len(weights) > 7 {
				break
			}
			if n, want := bound(t, s, weights), boundOf(s, weights); n != want {
				t.Fatalf("CheckWeights(%v, %v) = %d, want %d", s, weights, n, want)
			}
		}
	}
	r := rand.New(rand.NewPCG(114, 11))
	for s := range sheets(1140, 200) {
		for range 5 {
			weights := randomWeights(r, s)
			if n, want := bound(t, s, weights), boundOf(s, weights); n != want {
				t.Fatalf("CheckWeights(%v, %v) = %d, want %d", s, weights, n, want)
			}
		}
	}
}

func TestWeightsAgainstDefinition(t *testing.T) { // P11.4
	for s := range small(115, 200) {
		most := int64(math.MinInt64)
		for weights := range weightsOf(s) {
			most = max(most, boundOf(s, weights))
		}
		if weights := best(t, s); !areWeights(s, weights) || boundOf(s, weights) != most {
			t.Fatalf("Weights(%v) = %v, want ones with the bound %d", s, weights, most)
		}
	}
}

func TestSpanSureAndSumAgainstDefinition(t *testing.T) { // P11.5, P11.6, P11.7
	a := answers{t}
	for s := range small(116, 1200) {
		want := tell(s)
		if want.off > 0 {
			a.ofSheet(s, api.OK, api.ErrTally)
			a.ofSpan(s, len(s.Owners)-1, 0, api.ErrTally)
			continue
		}
		if l := spans(t, s); !slices.Equal(l, want.spans) {
			t.Fatalf("Span(%v) of all cells = %v, want %v", s, l, want.spans)
		}
		if l, e := tally.Sure(s); !slices.Equal(l, want.sure) || e != api.OK {
			t.Fatalf("Sure(%v) = %v, %d, want %v", s, l, e, want.sure)
		}
		if r, e := tally.Sum(s); r != want.sum || e != api.OK {
			t.Fatalf("Sum(%v) = %v, %d, want %v", s, r, e, want.sum)
		}
	}
}

// hasWith reports whether a table has the tallies of a sheet in which something is changed.
func hasWith(t *testing.T, s api.TallySheet, change func(*api.TallySheet)) bool {
	t.Helper()
	s = copyOf(s)
	change(&s)
	return off(t, s) == 0
}

// Off is proved for each sheet, so it tells which numbers a cell, or the sum of all, can have.
func TestSpanSureAndSumOfLargeSheets(t *testing.T) { // P11.5, P11.6, P11.7
	for s := range large(117, 25) {
		l := spans(t, s)
		if l == nil {
			continue
		}
		var sure []int
		for cell, r := range l {
			before := func(s *api.TallySheet) { s.Cells[cell].Hi = r.Lo - 1 }
			behind := func(s *api.TallySheet) { s.Cells[cell].Lo = r.Hi + 1 }
			if r.Lo > s.Cells[cell].Lo && hasWith(t, s, before) || r.Hi < s.Cells[cell].Hi && hasWith(t, s, behind) {
				t.Fatalf("Span(%v) of the cell %d = %v, but it can have another number", s, cell, r)
			}
			if off(t, fixed(s, cell, r.Lo)) > 0 || off(t, fixed(s, cell, r.Hi)) > 0 {
				t.Fatalf("Span(%v) of the cell %d = %v, but it cannot have both ends", s, cell, r)
			}
			if r.Lo == r.Hi {
				sure = append(sure, cell)
			}
		}
		if got, e := tally.Sure(s); !slices.Equal(got, sure) || e != api.OK {
			t.Fatalf("Sure(%v) = %v, %d, want %v", s, got, e, sure)
		}
		sum, e := tally.Sum(s)
		must(t, sum, e)
		before := func(s *api.TallySheet) { s.All.Hi = sum.Lo - 1 }
		behind := func(s *api.TallySheet) { s.All.Lo = sum.Hi + 1 }
		least := func(s *api.TallySheet) { s.All = just(sum.Lo) }
		most := func(s *api.TallySheet) { s.All = just(sum.Hi) }
		if sum.Lo > s.All.Lo && hasWith(t, s, before) || sum.Hi < s.All.Hi && hasWith(t, s, behind) || !hasWith(t, s, least) || !hasWith(t, s, most) {
			t.Fatalf("Sum(%v) = %v", s, sum)
		}
	}
}

// The properties.

func TestProved(t *testing.T) { // P11.8, G11
	r := rand.New(rand.NewPCG(118, 11))
	for s := range sheets(118, 1600) {
		n, table, weights := off(t, s), tableOf(t, s), best(t, s)
		if wrong(t, s, table) != n || wrongOf(s, table) != n {
			t.Fatalf("Table(%v) = %v, which is wrong by %d, Off is %d", s, table, wrong(t, s, table), n)
		}
		if !areWeights(s, weights) || bound(t, s, weights) != n || boundOf(s, weights) != n {
			t.Fatalf("Weights(%v) = %v, of which the bound is %d, Off is %d", s, weights, bound(t, s, weights), n)
		}
		for range 5 {
			if table := randomTable(r, s); wrong(t, s, table) < n {
				t.Fatalf("Off(%v) = %d, but %v is wrong by %d", s, n, table, wrong(t, s, table))
			}
			if weights := randomWeights(r, s); bound(t, s, weights) > n {
				t.Fatalf("Off(%v) = %d, but the bound of %v is %d", s, n, weights, bound(t, s, weights))
			}
		}
	}
}

func TestNoTableBelowABound(t *testing.T) { // P11.8
	for s := range small(119, 60) {
		least := int64(math.MaxInt64)
		for table := range tablesOf(s) {
			least = min(least, wrong(t, s, table))
		}
		for weights := range weightsOf(s) {
			if len(weights) > 7 {
				break
			}
			if n := bound(t, s, weights); n > least {
				t.Fatalf("%v: the bound of %v is %d, but a table is wrong by %d", s, weights, n, least)
			}
		}
	}
}

func TestEither(t *testing.T) { // P11.9
	for s := range sheets(120, 800) {
		has := wrong(t, s, tableOf(t, s)) == 0
		isAbove := bound(t, s, best(t, s)) > 0
		want := api.ErrTally
		if has {
			want = api.OK
		}
		if has == isAbove {
			t.Fatalf("%v: a table has the tallies: %t, the bound of weights is above 0: %t", s, has, isAbove)
		}
		answers{t}.ofSheet(s, api.OK, want)
		answers{t}.ofSpan(s, 0, len(s.Pockets)-1, want)
	}
}

func TestWithinSpans(t *testing.T) { // P11.10
	for s := range small(121, 400) {
		l := spans(t, s)
		had := make([]map[int64]bool, len(s.Cells))
		for table := range tablesOf(s) {
			if wrong(t, s, table) > 0 {
				continue
			}
			for cell, n := range table {
				if l == nil || n < l[cell].Lo || n > l[cell].Hi {
					t.Fatalf("%v has the tallies of %v, but the spans are %v", table, s, l)
				}
				if had[cell] == nil {
					had[cell] = map[int64]bool{}
				}
				had[cell][n] = true
			}
		}
		for cell, r := range l {
			if int64(len(had[cell])) != r.Hi-r.Lo+1 {
				t.Fatalf("Span(%v) of the cell %d = %v, but only %v are had", s, cell, r, had[cell])
			}
		}
	}
}

func TestEachNumberOfASpan(t *testing.T) { // P11.10
	r := rand.New(rand.NewPCG(122, 11))
	for s := range large(122, 60) {
		for cell, x := range spans(t, s) {
			n := x.Lo + r.Int64N(x.Hi-x.Lo+1)
			if table := tableOf(t, fixed(s, cell, n)); wrongOf(s, table) > 0 || table[cell] != n {
				t.Fatalf("Span(%v) of the cell %d = %v, but %d is not had", s, cell, x, n)
			}
		}
	}
}

// isIn reports whether a range is in another one.
func isIn(one, other api.Range) bool { return one.Lo >= other.Lo && one.Hi <= other.Hi }

func TestNarrower(t *testing.T) { // P11.11
	r := rand.New(rand.NewPCG(123, 11))
	for s := range sheets(123, 400) {
		n, l := off(t, s), spans(t, s)
		for range 3 {
			narrow := copyOf(s)
			ranges := parts(&narrow)
			x := ranges[r.IntN(len(ranges))]
			inside := between(r, x.Hi-x.Lo)
			*x = to(x.Lo+inside.Lo, x.Lo+inside.Hi)
			if m := off(t, narrow); m < n {
				t.Fatalf("Off(%v) = %d, narrower %v: %d", s, n, narrow, m)
			}
			for cell, x := range spans(t, narrow) {
				if l == nil || !isIn(x, l[cell]) {
					t.Fatalf("the spans of %v are %v, narrower %v: %v of the cell %d", s, l, narrow, x, cell)
				}
			}
		}
	}
}

func TestOneNumberMore(t *testing.T) { // P11.11
	r := rand.New(rand.NewPCG(124, 11))
	isLess := false
	for s := range sheets(124, 700) {
		n := off(t, s)
		more := copyOf(s)
		x := parts(&more)[r.IntN(len(s.Owners)+len(s.Pockets)+1)]
		if r.IntN(2) == 0 {
			x.Lo--
		} else {
			x.Hi++
		}
		if tally.CheckSheet(more) != api.OK {
			continue
		}
		m := off(t, more)
		if m < n-1 || m > n {
			t.Fatalf("Off(%v) = %d, with one number more %v: %d", s, n, more, m)
		}
		isLess = isLess || m < n
	}
	if !isLess {
		t.Error("one number more never helps")
	}
}

// turned returns a sheet with owners and pockets exchanged.
func turned(s api.TallySheet) api.TallySheet {
	x := sheet(s.Pockets, s.Owners, s.All)
	for pocket := range s.Pockets {
		for owner := range s.Owners {
			x.Cells = append(x.Cells, s.Cells[cellOf(s, owner, pocket)])
		}
	}
	return x
}

// named returns a sheet with its owners in another order.
func named(s api.TallySheet, order []int) api.TallySheet {
	x := sheet(nil, s.Pockets, s.All)
	for _, owner := range order {
		x.Owners = append(x.Owners, s.Owners[owner])
		x.Cells = append(x.Cells, s.Cells[cellOf(s, owner, 0):cellOf(s, owner+1, 0)]...)
	}
	return x
}

// spansAs returns spans as the cells of another sheet are, in which those of a sheet stand in another order.
func spansAs(s api.TallySheet, l []api.Range, other func(api.TallySheet) api.TallySheet) []api.Range {
	if l == nil {
		return nil
	}
	s.Cells = l
	return other(s).Cells
}

func TestTurned(t *testing.T) { // P11.12
	r := rand.New(rand.NewPCG(125, 11))
	for s := range sheets(125, 400) {
		n, l := off(t, s), spans(t, s)
		order := r.Perm(len(s.Owners))
		for _, other := range []func(api.TallySheet) api.TallySheet{turned, func(s api.TallySheet) api.TallySheet { return named(s, order) }} {
			x := other(s)
			if m := off(t, x); m != n {
				t.Fatalf("Off(%v) = %d, turned %d", s, n, m)
			}
			if got, want := spans(t, x), spansAs(s, l, other); !slices.Equal(got, want) {
				t.Fatalf("the spans of %v are %v, turned %v, want %v", s, l, got, want)
			}
		}
	}
}

func TestTimes(t *testing.T) { // P11.13
	r := rand.New(rand.NewPCG(126, 11))
	for s := range sheets(126, 500) {
		times := r.Int64N(5) + 1
		if r.IntN(2) == 0 {
			times = 1000
			for _, x := range parts(&s) {
				times = min(times, 1000/max(1, x.Hi))
			}
		}
		greater := copyOf(s)
		for _, x := range parts(&greater) {
			*x = to(x.Lo*times, x.Hi*times)
		}
		if tally.CheckSheet(greater) != api.OK {
			continue
		}
		if n, m := off(t, s), off(t, greater); m != n*times {
			t.Fatalf("Off(%v) = %d, %d times as great %d", s, n, times, m)
		}
		l, got := spans(t, s), spans(t, greater)
		for cell := range l {
			l[cell] = to(l[cell].Lo*times, l[cell].Hi*times)
		}
		if !slices.Equal(got, l) {
			t.Fatalf("the spans of %v, %d times as great, are %v, want %v", s, times, got, l)
		}
	}
}

func TestKnownTable(t *testing.T) { // P11.14
	r := rand.New(rand.NewPCG(127, 11))
	for s := range sheets(127, 700) {
		table := randomTable(r, s)
		if r.IntN(2) == 0 {
			table = tableOf(t, s)
		}
		s.Cells = each(table...)
		n := wrongOf(s, table)
		if m := off(t, s); m != n || wrong(t, s, table) != n || !slices.Equal(tableOf(t, s), table) {
			t.Fatalf("Off(%v) = %d, Table %v, but the only table is wrong by %d", s, m, tableOf(t, s), n)
		}
		if n > 0 {
			continue
		}
		sure, e := tally.Sure(s)
		sum, f := tally.Sum(s)
		if !slices.Equal(spans(t, s), s.Cells) || !slices.Equal(sure, upTo(len(table))) || sum != just(ofAll(table)) || e != api.OK || f != api.OK {
			t.Fatalf("%v: the spans are %v, sure are %v, %d, the sum is %v, %d", s, spans(t, s), sure, e, sum, f)
		}
	}
}

// joined returns a sheet with its first two owners joined to one.
func joined(s api.TallySheet) api.TallySheet {
	plus := func(one, two api.Range) api.Range { return to(one.Lo+two.Lo, one.Hi+two.Hi) }
	x := sheet(slices.Clone(s.Owners[1:]), s.Pockets, s.All, slices.Clone(s.Cells[len(s.Pockets):])...)
	x.Owners[0] = plus(s.Owners[0], s.Owners[1])
	for pocket := range s.Pockets {
		x.Cells[pocket] = plus(s.Cells[cellOf(s, 0, pocket)], s.Cells[cellOf(s, 1, pocket)])
	}
	return x
}

func TestJoined(t *testing.T) { // P11.15
	r := rand.New(rand.NewPCG(128, 11))
	for s := range sheets(128, 1600) {
		if len(s.Owners) < 2 {
			continue
		}
		one := joined(named(s, r.Perm(len(s.Owners))))
		if tally.CheckSheet(one) != api.OK {
			continue
		}
		if n, m := off(t, s), off(t, one); m > n {
			t.Fatalf("Off(%v) = %d, of two owners joined %d", s, n, m)
		}
	}
}

// The rules of DOC.md.

// call is what functions take.
type call struct {
	s             api.TallySheet
	table         []int64
	weights       []int
	owner, pocket int
}

// callOf returns a call with arguments that are right.
func callOf(r *rand.Rand, s api.TallySheet) call {
	return call{s, randomTable(r, s), randomWeights(r, s), r.IntN(len(s.Owners)), r.IntN(len(s.Pockets))}
}

// copied returns a call with lists of its own.
func (c call) copied() call {
	c.s, c.table, c.weights = copyOf(c.s), slices.Clone(c.table), slices.Clone(c.weights)
	return c
}

// calls returns some calls, among them such as are at the limits.
func calls() []call {
	r := rand.New(rand.NewPCG(9, 11))
	var l []call
	for s := range large(9, 8) {
		l = append(l, callOf(r, s))
	}
	return l
}

// results returns what all functions return for these arguments.
func results(c call) []any {
	out := []any{tally.CheckSheet(c.s)}
	add := func(x ...any) { out = append(out, x...) }
	n, e := tally.Wrong(c.s, c.table)
	add(n, e)
	n, e = tally.Off(c.s)
	add(n, e)
	table, e := tally.Table(c.s)
	add(table, e)
	n, e = tally.CheckWeights(c.s, c.weights)
	add(n, e)
	weights, e := tally.Weights(c.s)
	add(weights, e)
	r, e := tally.Span(c.s, c.owner, c.pocket)
	add(r, e)
	sure, e := tally.Sure(c.s)
	add(sure, e)
	r, e = tally.Sum(c.s)
	add(r, e)
	return out
}

// overwrite writes something over all that a list reaches.
func overwrite[T any](l []T, x T) {
	for i := range l[:cap(l)] {
		l[:cap(l)][i] = x
	}
}

// overwriteAll writes over all that results reach.
func overwriteAll(results []any) {
	for _, x := range results {
		switch l := x.(type) {
		case []int:
			overwrite(l, -9)
		case []int64:
			overwrite(l, -9)
		}
	}
}

func TestNothingSharedNorChanged(t *testing.T) { // R4, R9, R10
	for _, x := range calls() {
		c := x.copied()
		want := results(c)
		told := fmt.Sprint(want)
		overwriteAll(results(c))
		if !reflect.DeepEqual(c, x) {
			t.Errorf("arguments are changed: %v, not %v", c, x)
		}
		results(call{s: sheetT()})
		results(call{s: wide(5, 5), table: make([]int64, 25), weights: make([]int, 11)})
		results(call{})
		for range 2 {
			if got := results(c); !reflect.DeepEqual(got, want) {
				t.Fatalf("another result: %v, not %v", got, want)
			}
		}
		// What is done with arguments changes no result.
		overwrite(c.s.Owners, to(-9, -9))
		overwrite(c.s.Pockets, to(-9, -9))
		overwrite(c.s.Cells, to(-9, -9))
		overwrite(c.table, -9)
		overwrite(c.weights, -9)
		if now := fmt.Sprint(want); now != told {
			t.Errorf("%s became %s", told, now)
		}
	}
}

// longer returns a list behind the end of which there is something else.
func longer[T any](l []T, behind T) []T {
	return append(slices.Clone(l), slices.Repeat([]T{behind}, 30)...)[:len(l)]
}

// What is behind the end of a list that is an argument is neither read nor written.
func TestBehindTheEnd(t *testing.T) { // R4
	for _, x := range calls() {
		c := x
		c.s.Owners, c.s.Pockets, c.s.Cells = longer(x.s.Owners, to(7, -7)), longer(x.s.Pockets, to(7, -7)), longer(x.s.Cells, to(7, -7))
		c.table, c.weights = longer(x.table, -7), longer(x.weights, -7)
		if got, want := results(c), results(x); !reflect.DeepEqual(got, want) {
			t.Errorf("%v: %v, with other things behind the end %v", x, want, got)
		}
		for _, l := range [][]api.Range{c.s.Owners, c.s.Pockets, c.s.Cells} {
			if behind := l[len(l) : len(l)+30]; !slices.Equal(behind, same(30, to(7, -7))) {
				t.Errorf("%v: what is behind the end is changed: %v", x, behind)
			}
		}
		table, weights := c.table[len(c.table):len(c.table)+30], c.weights[len(c.weights):len(c.weights)+30]
		if !slices.Equal(table, slices.Repeat(longs(-7), 30)) || !slices.Equal(weights, slices.Repeat(list(-7), 30)) {
			t.Errorf("%v: what is behind the end is changed: %v, %v", x, table, weights)
		}
	}
}

func TestAllAtOnce(t *testing.T) { // R9, R10
	var group sync.WaitGroup
	for _, x := range calls() {
		group.Go(func() {
			want := results(x)
			for range 3 {
				if got := results(x); !reflect.DeepEqual(got, want) {
					t.Errorf("another result: %v, not %v", got, want)
				}
			}
		})
	}
	group.Wait()
}

func TestNilIsEmpty(t *testing.T) { // R3
	no := all()
	for _, c := range []call{
		{s: sheetS()}, {s: sheetT()}, {}, {s: sheet(each(0), nil, just(0))}, {s: sheet(nil, each(0), just(0))}, {s: sheet(each(0), each(0), just(0))},
	} {
		empty := c.copied()
		empty.table, empty.weights = []int64{}, []int{}
		for _, l := range []*[]api.Range{&empty.s.Owners, &empty.s.Pockets, &empty.s.Cells} {
			if len(*l) == 0 {
				*l = no
			}
		}
		if got, want := fmt.Sprint(results(empty)), fmt.Sprint(results(c)); got != want {
			t.Errorf("%v: %s with nil, %s with empty lists", c, want, got)
		}
	}
}

// areRight reports whether all ranges are as a sheet has them.
func areRight(ranges ...api.Range) bool {
	return !slices.ContainsFunc(ranges, func(r api.Range) bool { return r.Lo < 0 || r.Lo > r.Hi || r.Hi > 1000 })
}

// errorOfSheet returns what CheckSheet does.
func (c call) errorOfSheet() api.Errno {
	owners, pockets := len(c.s.Owners), len(c.s.Pockets)
	switch {
	case owners < 1 || owners > 5 || pockets < 1 || pockets > 5:
		return api.ErrMany
	case len(c.s.Cells) != owners*pockets:
		return api.ErrEqual
	case !areRight(c.s.Owners...) || !areRight(c.s.Pockets...) || !areRight(c.s.All) || !areRight(c.s.Cells...):
		return api.ErrRange
	}
	return api.OK
}

// errors returns what Wrong, CheckWeights, Span, and functions that need a table that has the tallies return.
func (c call) errors() (ofWrong, ofWeights, ofSpan, ofRight api.Errno) {
	switch {
	case len(c.table) != len(c.s.Cells):
		ofWrong = api.ErrEqual
	case !isTable(c.s, c.table):
		ofWrong = api.ErrRange
	}
	switch {
	case len(c.weights) != len(c.s.Owners)+len(c.s.Pockets)+1:
		ofWeights = api.ErrEqual
	case !areWeights(c.s, c.weights):
		ofWeights = api.ErrRange
	}
	// What Off returns is tested above.
	if off, e := tally.Off(c.s); off > 0 || e != api.OK {
		ofSpan, ofRight = api.ErrTally, api.ErrTally
	}
	if c.owner < 0 || c.owner >= len(c.s.Owners) || c.pocket < 0 || c.pocket >= len(c.s.Pockets) {
		ofSpan = api.ErrArg
	}
	return ofWrong, ofWeights, ofSpan, ofRight
}

// check checks that all functions return the errors that they should, and beside them only zero values.
func (c call) check(t *testing.T) {
	t.Helper()
	a := answers{t}
	e := c.errorOfSheet()
	ofWrong, ofWeights, ofSpan, ofRight := c.errors()
	if e != api.OK {
		ofWrong, ofWeights, ofSpan, ofRight = e, e, e, e
	}
	a.ofSheet(c.s, e, ofRight)
	a.ofWrong(c.s, c.table, ofWrong)
	a.ofWeights(c.s, c.weights, ofWeights)
	a.ofSpan(c.s, c.owner, c.pocket, ofSpan)
}

// odd returns a number that is often wrong.
func odd(r *rand.Rand) int {
	l := list(math.MinInt, math.MinInt+1, -1<<32, -1, 0, 1, 2, 3, 4, 5, 6, 20, 999, 1000, 1001, 1<<32, 1<<32+1, 1<<62, math.MaxInt-1, math.MaxInt)
	return l[r.IntN(len(l))]
}

// spoil changes something of a call.
func (c *call) spoil(r *rand.Rand) {
	switch lists := []*[]api.Range{&c.s.Owners, &c.s.Pockets, &c.s.Cells}; r.IntN(8) {
	case 0:
		l := lists[r.IntN(3)]
		*l = append(*l, to(int64(odd(r)), int64(odd(r))))
	case 1:
		l := lists[r.IntN(3)]
		*l = (*l)[:max(0, len(*l)-1)]
	case 2:
		l := parts(&c.s)
		l[r.IntN(len(l))].Lo = int64(odd(r))
	case 3:
		l := parts(&c.s)
		l[r.IntN(len(l))].Hi = int64(odd(r))
	case 4:
		c.table = append(c.table[:r.IntN(len(c.table)+1)], int64(odd(r)))
	case 5:
		c.weights = append(c.weights[:r.IntN(len(c.weights)+1)], odd(r))
	case 6:
		c.owner = odd(r)
	case 7:
		c.pocket = odd(r)
	}
}

func TestAnyArguments(t *testing.T) { // P1, R1, R2, R5
	r := rand.New(rand.NewPCG(1, 11))
	for s := range random(1, 4000, 5, 5, 20, 5) {
		c := callOf(r, s)
		for r.IntN(3) > 0 {
			c.spoil(r)
		}
		c.check(t)
		if t.Failed() {
			t.Fatalf("%v: %v", c, results(c))
		}
	}
}
