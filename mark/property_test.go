package mark_test

import (
	"iter"
	"math"
	"math/bits"
	"math/rand/v2"
	"reflect"
	"slices"
	"testing"

	"peavey/api"
	"peavey/mark"
)

// The definitions of the chapter, word for word, with nothing that the package computes.

func has(set, stroke int) bool { return set>>stroke&1 == 1 }

// canBe: all strokes of the worn mark are in the mark, and at most loss strokes of the mark are not in it.
func canBe(strokes, loss, worn, m int) bool {
	lost := 0
	for s := range strokes {
		if has(worn, s) && !has(m, s) {
			return false
		}
		if has(m, s) && !has(worn, s) {
			lost++
		}
	}
	return lost <= loss
}

// clashOf returns a worn mark with the most strokes that can be both, and how many there are of these; -1 and 0 if there are none.
func clashOf(strokes, loss, a, b int) (int, int) {
	best, many := -1, 0
	for worn := range 1 << strokes {
		if !canBe(strokes, loss, worn, a) || !canBe(strokes, loss, worn, b) {
			continue
		}
		if n := bits.OnesCount(uint(worn)); best < 0 || n > bits.OnesCount(uint(best)) {
			best, many = worn, 1
		} else if n == bits.OnesCount(uint(best)) {
			many++
		}
	}
	return best, many
}

func clash(strokes, loss, a, b int) bool {
	worn, _ := clashOf(strokes, loss, a, b)
	return worn >= 0
}

// firstClash returns the first two of the marks that clash.
func firstClash(strokes, loss int, marks []int) (int, int, bool) {
	for i := range marks {
		for j := i + 1; j < len(marks); j++ {
			if clash(strokes, loss, marks[i], marks[j]) {
				return i, j, true
			}
		}
	}
	return 0, 0, false
}

// told reports whether an owner is told after t losses.
func told(o api.MarkOffice, owner, t int) bool {
	for rest := range 1 << o.Strokes {
		if !canBe(o.Strokes, t, rest, o.Marks[owner]) {
			continue
		}
		for other, m := range o.Marks {
			if other != owner && canBe(o.Strokes, o.Loss, rest, m) {
				return false
			}
		}
	}
	return true
}

// tells reports whether strokes tell an owner.
func tells(o api.MarkOffice, owner, strokes int) bool {
	if strokes&o.Marks[owner] != strokes {
		return false
	}
	for other, m := range o.Marks {
		if other != owner && strokes&m == strokes {
			return false
		}
	}
	return true
}

func isFree(o api.MarkOffice, m int) bool {
	return !slices.ContainsFunc(o.Marks, func(other int) bool { return clash(o.Strokes, o.Loss, m, other) })
}

// elements returns a set as an increasing list.
func elements(set int) []int {
	var l []int
	for i := range bits.Len(uint(set)) {
		if has(set, i) {
			l = append(l, i)
		}
	}
	return l
}

func isFamily(o api.MarkOffice, marks, family []int) bool {
	var members []int
	for _, i := range family {
		if !isFree(o, marks[i]) {
			return false
		}
		members = append(members, marks[i])
	}
	_, _, found := firstClash(o.Strokes, o.Loss, members)
	return !found
}

// Offices to test.

// lists yields all lists of up to so many marks of so many strokes.
func lists(strokes, most int) iter.Seq[[]int] {
	return func(yield func([]int) bool) {
		var longer func(l []int) bool
		longer = func(l []int) bool {
			if !yield(slices.Clone(l)) {
				return false
			}
			for m := 1; len(l) < most && m < 1<<strokes; m++ {
				if !longer(append(slices.Clone(l), m)) {
					return false
				}
			}
			return true
		}
		longer(nil)
	}
}

// smallOffices yields all offices of up to 3 strokes and 3 marks, and those of 4 strokes and 2 marks.
func smallOffices() iter.Seq[api.MarkOffice] {
	return func(yield func(api.MarkOffice) bool) {
		for strokes := 1; strokes <= 4; strokes++ {
			for marks := range lists(strokes, min(3, 6-strokes)) {
				for loss := range strokes + 1 {
					if !yield(api.MarkOffice{Strokes: strokes, Loss: loss, Marks: marks}) {
						return
					}
				}
			}
		}
	}
}

// someMarks returns up to most marks; the generator has a seed that is always the same.
func someMarks(r *rand.Rand, strokes, most int) []int {
	var marks []int
	for range r.IntN(most + 1) {
		marks = append(marks, 1+r.IntN(1<<strokes-1))
	}
	return marks
}

// someOffices yields offices of up to so many strokes, with few losses and many marks more often than not.
func someOffices(many, strokes int) iter.Seq[api.MarkOffice] {
	return func(yield func(api.MarkOffice) bool) {
		r := rand.New(rand.NewPCG(1, 2))
		for range many {
			s := 1 + r.IntN(strokes)
			o := api.MarkOffice{Strokes: s, Loss: min(r.IntN(s+1), r.IntN(s+1)), Marks: someMarks(r, s, api.MaxMarkOwners)}
			if !yield(o) {
				return
			}
		}
	}
}

func all(seqs ...iter.Seq[api.MarkOffice]) iter.Seq[api.MarkOffice] {
	return func(yield func(api.MarkOffice) bool) {
		for _, seq := range seqs {
			for o := range seq {
				if !yield(o) {
					return
				}
			}
		}
	}
}

func must[T any](t *testing.T, x T, e api.Errno) T {
	t.Helper()
	if e != api.OK {
		t.Fatal("error", e)
	}
	return x
}

// Each function against its definition.

func TestOwnersByDefinition(t *testing.T) { // P1.2, G1
	for o := range all(smallOffices(), someOffices(50, 6)) {
		for worn := range 1 << o.Strokes {
			var want []int
			for owner, m := range o.Marks {
				if canBe(o.Strokes, o.Loss, worn, m) {
					want = append(want, owner)
				}
			}
			if got, e := mark.Owners(o, worn); !slices.Equal(got, want) || e != api.OK {
				t.Fatalf("Owners(%v, %d) = %v, %d, want %v", o, worn, got, e, want)
			}
		}
	}
}

func TestClashByDefinition(t *testing.T) { // P1.3
	for o := range all(smallOffices(), someOffices(30, 6)) {
		for one := range o.Marks {
			for two := range o.Marks {
				if one == two {
					continue
				}
				got, e := mark.Clash(o, one, two)
				want, many := clashOf(o.Strokes, o.Loss, o.Marks[one], o.Marks[two])
				if want < 0 && (e != api.ErrNone || got != 0) || want >= 0 && (e != api.OK || got != want || many != 1) {
					t.Fatalf("Clash(%v, %d, %d) = %d, %d, want %d, of %d", o, one, two, got, e, want, many)
				}
			}
		}
	}
}

func TestApartAndMarginByDefinition(t *testing.T) { // P1.3, P1.4
	for o := range all(smallOffices(), someOffices(30, 6)) {
		want := api.OK
		a, b, found := firstClash(o.Strokes, o.Loss, o.Marks)
		if found {
			want = api.ErrMark
		}
		if one, two, e := mark.Apart(o); one != a || two != b || e != want {
			t.Fatalf("Apart(%v) = %d, %d, %d, want %d, %d, %d", o, one, two, e, a, b, want)
		}
		margin := o.Strokes
		for ; margin >= 0; margin-- {
			if _, _, found := firstClash(o.Strokes, margin, o.Marks); !found {
				break
			}
		}
		if got, e := mark.Margin(o); got != margin || e != api.OK {
			t.Fatalf("Margin(%v) = %d, %d, want %d", o, got, e, margin)
		}
	}
}

func TestToldByDefinition(t *testing.T) { // P1.5
	for o := range all(smallOffices(), someOffices(100, 6)) {
		for owner := range o.Marks {
			want := o.Loss
			for want >= 0 && !told(o, owner, want) {
				want--
			}
			if got, e := mark.Told(o, owner); got != want || e != api.OK {
				t.Fatalf("Told(%v, %d) = %d, %d, want %d", o, owner, got, e, want)
			}
		}
	}
}

func TestKeepByDefinition(t *testing.T) { // P1.6
	for o := range all(smallOffices(), someOffices(200, 8)) {
		for owner := range o.Marks {
			want, found := 0, false
			for set := range 1 << o.Strokes {
				if !tells(o, owner, set) {
					continue
				}
				a, b := elements(set), elements(want)
				if !found || len(a) < len(b) || len(a) == len(b) && slices.Compare(a, b) < 0 {
					want, found = set, true
				}
			}
			got, e := mark.Keep(o, owner)
			if found && (got != want || e != api.OK) || !found && (got != 0 || e != api.ErrMark) {
				t.Fatalf("Keep(%v, %d) = %d, %d, want %d, found %v", o, owner, got, e, want, found)
			}
		}
	}
}

func TestFreeByDefinition(t *testing.T) { // P1.7
	for o := range all(smallOffices(), someOffices(30, 5)) {
		var want []int
		for m := 1; m < 1<<o.Strokes; m++ {
			if isFree(o, m) {
				want = append(want, m)
			}
		}
		if got, e := mark.Free(o); !slices.Equal(got, want) || e != api.OK {
			t.Fatalf("Free(%v) = %v, %d, want %v", o, got, e, want)
		}
	}
}

func TestFamilyByDefinition(t *testing.T) { // P1.8, P1.14
	r := rand.New(rand.NewPCG(3, 4))
	for o := range someOffices(150, 5) {
		o.Marks = o.Marks[:min(len(o.Marks), r.IntN(4))] // with many marks few are free
		marks := someMarks(r, o.Strokes, 7)
		var want []int
		for set := range 1 << len(marks) {
			family := elements(set)
			is := isFamily(o, marks, family)
			e := mark.CheckFamily(o, marks, family)
			if is && e != api.OK || !is && e != api.ErrMark {
				t.Fatalf("CheckFamily(%v, %v, %v) = %d", o, marks, family, e)
			}
			if is && (len(family) > len(want) || len(family) == len(want) && slices.Compare(family, want) < 0) {
				want = family
			}
		}
		if got, e := mark.Family(o, marks); !slices.Equal(got, want) || e != api.OK {
			t.Fatalf("Family(%v, %v) = %v, %d, want %v", o, marks, got, e, want)
		}
	}
}

// The properties of the chapter.

func TestEither(t *testing.T) { // P1.9
	for o := range all(smallOffices(), someOffices(100, 7)) {
		most, owners := 0, []int(nil)
		for worn := range 1 << o.Strokes {
			l, e := mark.Owners(o, worn)
			most = max(most, len(must(t, l, e)))
		}
		one, two, e := mark.Apart(o)
		if (e == api.OK) != (most <= 1) {
			t.Fatalf("%v: Apart returns %d, and a worn mark can be that of %d owners", o, e, most)
		}
		if e == api.OK {
			continue
		}
		worn, e := mark.Clash(o, one, two)
		if e == api.OK {
			owners, e = mark.Owners(o, worn)
		}
		if e != api.OK || !slices.Contains(owners, one) || !slices.Contains(owners, two) {
			t.Fatalf("%v: %d and %d clash, but %d, of error %d, can be that of %v", o, one, two, worn, e, owners)
		}
	}
}

func TestMarginKeepsApart(t *testing.T) { // P1.10
	for o := range all(smallOffices(), someOffices(300, 10)) {
		m, e := mark.Margin(o)
		margin := must(t, m, e)
		if o.Loss = margin; margin >= 0 {
			if _, _, e := mark.Apart(o); e != api.OK {
				t.Fatalf("%v: not apart with its margin", o)
			}
		}
		if o.Loss = margin + 1; o.Loss <= o.Strokes {
			if _, _, e := mark.Apart(o); e != api.ErrMark {
				t.Fatalf("%v: apart with more than its margin", o)
			}
		}
	}
}

func TestFreeStaysApart(t *testing.T) { // P1.11, G1
	for o := range smallOffices() {
		if _, _, e := mark.Apart(o); e != api.OK {
			continue
		}
		l, e := mark.Free(o)
		free := must(t, l, e)
		for m := 1; m < 1<<o.Strokes; m++ {
			more := office(o.Strokes, o.Loss, append(slices.Clone(o.Marks), m)...)
			if _, _, e := mark.Apart(more); (e == api.OK) != slices.Contains(free, m) {
				t.Fatalf("%v: Apart returns %d, of %v are free %v", more, e, o, free)
			}
		}
	}
}

func TestToldOwner(t *testing.T) { // P1.12
	for o := range all(smallOffices(), someOffices(200, 6)) {
		for owner := range o.Marks {
			n, e := mark.Told(o, owner)
			n = must(t, n, e)
			if n < -1 || n > o.Loss || n >= 0 && !told(o, owner, n) || n < o.Loss && told(o, owner, n+1) {
				t.Fatalf("Told(%v, %d) = %d", o, owner, n)
			}
		}
	}
}

func TestKept(t *testing.T) { // P1.13
	for o := range all(smallOffices(), someOffices(100, 7)) {
		for owner := range o.Marks {
			keep, e := mark.Keep(o, owner)
			if e != api.OK {
				continue
			}
			for set := range 1 << o.Strokes {
				if set&keep == keep && slices.ContainsFunc(others(o, owner), func(m int) bool { return set&m == set }) {
					t.Fatalf("%v: %d has the strokes %d of %d, and is in another mark", o, set, keep, owner)
				}
				if bits.OnesCount(uint(set)) < bits.OnesCount(uint(keep)) && tells(o, owner, set) {
					t.Fatalf("%v: %d tells %d, and has fewer strokes than %d", o, set, owner, keep)
				}
			}
		}
	}
}

func others(o api.MarkOffice, owner int) []int {
	return slices.Delete(slices.Clone(o.Marks), owner, owner+1)
}

func TestFamilyWithOneMore(t *testing.T) { // P1.14
	r := rand.New(rand.NewPCG(5, 6))
	for o := range someOffices(300, 8) {
		o.Marks = o.Marks[:min(len(o.Marks), r.IntN(4))]
		marks := someMarks(r, o.Strokes, api.MaxMarkOwners-1)
		f, e := mark.Family(o, marks)
		before := len(must(t, f, e))
		more := slices.Insert(slices.Clone(marks), r.IntN(len(marks)+1), 1+r.IntN(1<<o.Strokes-1))
		f, e = mark.Family(o, more)
		after := len(must(t, f, e))
		if after < before || after > before+1 {
			t.Fatalf("%v: %d of %v, %d of %v", o, before, marks, after, more)
		}
		if e := mark.CheckFamily(o, more, f); e != api.OK {
			t.Fatalf("%v: %v of %v is no family: %d", o, f, more, e)
		}
	}
}

func isPart(part, whole []int) bool {
	return !slices.ContainsFunc(part, func(x int) bool { return !slices.Contains(whole, x) })
}

func TestLost(t *testing.T) { // P1.15
	for o := range all(smallOffices(), someOffices(50, 7)) {
		if o.Loss == o.Strokes {
			continue
		}
		greater := o
		greater.Loss++
		for worn := range 1 << o.Strokes {
			a, e := mark.Owners(o, worn)
			b, f := mark.Owners(greater, worn)
			if !isPart(must(t, a, e), must(t, b, f)) {
				t.Fatalf("%v: %d of %v; with more losses %v", o, worn, a, b)
			}
		}
		a, e := mark.Free(o)
		b, f := mark.Free(greater)
		if !isPart(must(t, b, f), must(t, a, e)) {
			t.Fatalf("%v: free %v; with more losses %v", o, a, b)
		}
	}
}

// renamed returns a set of strokes with the names that they get.
func renamed(set int, names []int) int {
	named := 0
	for _, s := range elements(set) {
		named |= 1 << names[s]
	}
	return named
}

func TestNamed(t *testing.T) { // P1.16
	r := rand.New(rand.NewPCG(7, 8))
	for o := range all(smallOffices(), someOffices(50, 7)) {
		names := r.Perm(o.Strokes)
		other := office(o.Strokes, o.Loss)
		for _, m := range o.Marks {
			other.Marks = append(other.Marks, renamed(m, names))
		}
		for worn := range 1 << o.Strokes {
			a, e := mark.Owners(o, worn)
			b, f := mark.Owners(other, renamed(worn, names))
			if !slices.Equal(must(t, a, e), must(t, b, f)) {
				t.Fatalf("%v: %d of %v, but named otherwise of %v", o, worn, a, b)
			}
		}
		a, e := mark.Margin(o)
		b, f := mark.Margin(other)
		c, g := mark.Free(o)
		d, h := mark.Free(other)
		if must(t, a, e) != must(t, b, f) || len(must(t, c, g)) != len(must(t, d, h)) {
			t.Fatalf("%v: margin %d, free %v; named otherwise %d, %v", o, a, c, b, d)
		}
	}
}

// The rules of DOC.md.

// results returns what all functions return for these arguments.
func results(o api.MarkOffice, n, k int, marks, family []int) []any {
	var out []any
	add := func(x ...any) { out = append(out, x...) }
	add(mark.CheckOffice(o), mark.CheckFamily(o, marks, family))
	owners, e := mark.Owners(o, n)
	add(owners, e)
	worn, e := mark.Clash(o, n, k)
	add(worn, e)
	one, two, e := mark.Apart(o)
	add(one, two, e)
	margin, e := mark.Margin(o)
	add(margin, e)
	told, e := mark.Told(o, n)
	add(told, e)
	keep, e := mark.Keep(o, n)
	add(keep, e)
	free, e := mark.Free(o)
	add(free, e)
	best, e := mark.Family(o, marks)
	add(best, e)
	return out
}

func TestNothingSharedNorChanged(t *testing.T) { // R4, R9, R10
	asked, family := list(1, 2, 30, 12), list(0, 2, 3)
	o := officeP()
	want := results(o, 1, 0, asked, family)
	for _, x := range results(o, 1, 0, asked, family) {
		if l, ok := x.([]int); ok {
			for i := range l[:cap(l)] {
				l[:cap(l)][i] = -9
			}
		}
	}
	if !slices.Equal(o.Marks, officeP().Marks) || !slices.Equal(asked, list(1, 2, 30, 12)) || !slices.Equal(family, list(0, 2, 3)) {
		t.Error("arguments are changed:", o, asked, family)
	}
	for range 20 {
		if got := results(o, 1, 0, asked, family); !reflect.DeepEqual(got, want) {
			t.Fatalf("another result: %v, not %v", got, want)
		}
	}
}

func TestNilIsEmpty(t *testing.T) { // R3
	a := results(office(3, 1), 0, 0, nil, nil)
	b := results(api.MarkOffice{Strokes: 3, Loss: 1, Marks: []int{}}, 0, 0, []int{}, []int{})
	if !reflect.DeepEqual(a, b) {
		t.Errorf("%v with nil, %v with empty lists", a, b)
	}
}

func TestAnyArguments(t *testing.T) { // P1, R5
	numbers := list(math.MinInt, math.MinInt+1, -1, 0, 1, 3, 10, 11, 1023, 1024, 1<<32, math.MaxInt-1, math.MaxInt)
	for _, a := range numbers {
		for _, b := range numbers {
			for _, c := range numbers {
				results(office(a, b, c), c, a, list(a, b), list(b, c))
				results(office(10, 3, 1023, 7, 56), a, b, list(a, 1, b), list(c, a, b))
				results(office(3, 1, 7, 1), a, b, list(7, 1, 2), list(a, b, c))
			}
		}
	}
}

// At the limits of the chapter all calls end soon.
func TestLimits(t *testing.T) {
	for loss := range api.MaxMarkStrokes + 1 {
		full := slices.Repeat(list(1023, 31, 992), 4)
		results(office(api.MaxMarkStrokes, loss, full...), 0, 1, full, list(0, 1))
		results(office(api.MaxMarkStrokes, loss), 0, 1, list(1, 2, 4, 8, 16, 32, 64, 128, 256, 512, 3, 12), list(0, 1))
	}
}
