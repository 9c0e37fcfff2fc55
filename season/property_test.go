package season_test

import (
	"cmp"
	"fmt"
	"iter"
	"maps"
	"math"
	"math/rand/v2"
	"reflect"
	"regexp"
	"slices"
	"strconv"
	"strings"
	"sync"
	"testing"

	"peavey/api"
	"peavey/season"
)

// The definitions of the chapter, word for word, with nothing that the package computes.

// isMark reports whether a string is a mark.
func isMark(s string) bool {
	if len(s) < 1 || len(s) > 8 {
		return false
	}
	for i := range len(s) {
		if s[i] < 'a' || s[i] > 'z' || i > 0 && s[i] <= s[i-1] {
			return false
		}
	}
	return true
}

// isSeen reports whether a string is what can be seen.
func isSeen(s string) bool { return s == "" || isMark(s) }

// isWorn reports whether a mark can be worn to what is seen.
func isWorn(mark, seen string) bool {
	for i := range len(seen) {
		if !strings.Contains(mark, seen[i:i+1]) {
			return false
		}
	}
	return true
}

// fee is that of a log.
func fee(l api.SeasonLog) int64 { return 3 + l.Feet/10 }

// ownersOf returns the owners of a season by their numbers.
func ownersOf(s api.Season) map[int64]api.SeasonOwner {
	l := map[int64]api.SeasonOwner{}
	for _, x := range s.Owners {
		l[x.Number] = x
	}
	return l
}

// feesOf returns the fees of all logs of an owner together.
func feesOf(s api.Season, owner int64) int64 {
	var fees int64
	for _, l := range s.Logs {
		if l.Owner == owner {
			fees += fee(l)
		}
	}
	return fees
}

// wornOf returns the numbers of all owners whose mark can be worn to what is seen, increasing.
func wornOf(s api.Season, seen string) []int64 {
	var worn []int64
	for _, x := range s.Owners {
		if isWorn(x.Mark, seen) {
			worn = append(worn, x.Number)
		}
	}
	slices.Sort(worn)
	return worn
}

// hereOf returns the indices of the logs of an owner that are here.
func hereOf(s api.Season, owner int64) []int {
	var here []int
	for i, l := range s.Logs {
		if l.Owner == owner && !l.Gone {
			here = append(here, i)
		}
	}
	return here
}

// numbersOf returns the numbers of logs with some indices.
func numbersOf(s api.Season, indices []int) []int64 {
	var l []int64
	for _, i := range indices {
		l = append(l, s.Logs[i].Number)
	}
	return l
}

// wrongs returns all errors of CheckSeason that apply.
func wrongs(s api.Season) map[api.Errno]bool {
	found := map[api.Errno]bool{}
	is := func(e api.Errno, isWrong bool) { found[e] = found[e] || isWrong }
	is(api.ErrMany, len(s.Owners) > 20 || len(s.Logs) > 100)
	owners := ownersOf(s)
	for i, x := range s.Owners {
		is(api.ErrForm, !isMark(x.Mark))
		is(api.ErrRange, x.Number < 1 || x.Number > 1<<40)
		for _, y := range s.Owners[:i] {
			is(api.ErrHave, x.Mark == y.Mark || x.Number <= y.Number)
		}
		is(api.ErrSum, x.Paid < 0 || x.Paid > feesOf(s, x.Number))
	}
	for i, l := range s.Logs {
		is(api.ErrForm, !isSeen(l.Seen))
		is(api.ErrRange, l.Number < 1 || l.Number > 1<<40 || l.Feet < 1 || l.Feet > 10_000 || l.Owner < 0 || l.Owner > 1<<40)
		for _, m := range s.Logs[:i] {
			is(api.ErrHave, l.Number == m.Number)
		}
		owner, isOwner := owners[l.Owner]
		is(api.ErrNone, l.Owner != 0 && !isOwner)
		is(api.ErrRule, isOwner && !isWorn(owner.Mark, l.Seen) || l.Owner == 0 && l.Gone)
	}
	return found
}

// errorOf returns the first error of CheckSeason.
func errorOf(s api.Season) api.Errno {
	found := wrongs(s)
	for _, e := range errnos(api.ErrMany, api.ErrForm, api.ErrRange, api.ErrHave, api.ErrNone, api.ErrRule, api.ErrSum) {
		if found[e] {
			return e
		}
	}
	return api.OK
}

// forms are the lines of a text, with what follows a word in groups.
func forms() map[string]*regexp.Regexp {
	number, mark, seen := "([1-9][0-9]*)", "([a-z]+)", "([a-z]+|-)"
	l := map[string]*regexp.Regexp{}
	for word, rest := range map[string][]string{
		"mark": {number, mark}, "log": {number, seen, number}, "claim": {number, number}, "raft": {number, number}, "pay": {number, number}, "strike": {number},
	} {
		l[word] = regexp.MustCompile("^" + word + " " + strings.Join(rest, " ") + "$")
	}
	return l
}

var formsOfLines = forms()

// upTo reports whether digits are a number that is not greater.
func upTo(digits string, most int64) bool {
	last := strconv.FormatInt(most, 10)
	return cmp.Or(cmp.Compare(len(digits), len(last)), cmp.Compare(digits, last)) <= 0
}

// line is a line without its number: its word, and what follows it.
type line []string

// number returns the number at a place.
func (l line) number(place int) int64 {
	n, _ := strconv.ParseInt(l[place], 10, 64)
	return n
}

// letters returns what is seen.
func (l line) letters() string { return strings.TrimPrefix(l[2], "-") }

// lineOf returns the line that is written so, and whether it is one.
func lineOf(written string) (line, bool) {
	word, _, _ := strings.Cut(written, " ")
	form := formsOfLines[word]
	if form == nil || !form.MatchString(written) {
		return nil, false
	}
	l := line(form.FindStringSubmatch(written))
	l[0] = word
	most := map[string][]int64{"mark": {1 << 40}, "log": {1 << 40, 0, 10_000}, "claim": {1 << 40, 1 << 40}, "raft": {1 << 40, 100}, "pay": {1 << 40, 1_000_000}, "strike": {200}}
	for i, n := range most[word] {
		if n > 0 && !upTo(l[i+1], n) {
			return nil, false
		}
	}
	if word == "mark" && !isMark(l[2]) || word == "log" && !isSeen(l.letters()) {
		return nil, false
	}
	return l, true
}

// linesOf returns the lines of a text, or its error.
func linesOf(text string) ([]line, api.Errno) {
	if len(text) > 8000 {
		return nil, api.ErrLong
	}
	var lines []line
	rest := text
	for number := 1; rest != ""; number++ {
		written, next, isEnded := strings.Cut(rest, "\n")
		of, isNumber := strings.CutPrefix(written, fmt.Sprintf("%d ", number))
		l, isLine := lineOf(of)
		if !isEnded || !isNumber || !isLine {
			return nil, api.ErrForm
		}
		lines = append(lines, l)
		rest = next
	}
	if len(lines) > 200 {
		return nil, api.ErrMany
	}
	return lines, api.OK
}

// copyOf returns a season with lists of its own.
func copyOf(s api.Season) api.Season {
	return of(slices.Clone(s.Owners), slices.Clone(s.Logs))
}

// done returns the season after a line that is no strike, or the error that it returns.
func done(before api.Season, l line) (api.Season, api.Errno) {
	s := copyOf(before)
	owners := ownersOf(s)
	owner := slices.IndexFunc(s.Owners, func(x api.SeasonOwner) bool { return x.Number == l.number(1) })
	log := slices.IndexFunc(s.Logs, func(x api.SeasonLog) bool { return x.Number == l.number(1) })
	switch l[0] {
	case "mark":
		isMark := func(x api.SeasonOwner) bool { return x.Mark == l[2] }
		if owner >= 0 || slices.ContainsFunc(s.Owners, isMark) {
			return before, api.ErrHave
		}
		if len(s.Owners) == 20 {
			return before, api.ErrFull
		}
		s.Owners = append(s.Owners, own(l.number(1), l[2], 0))
		slices.SortFunc(s.Owners, func(x, y api.SeasonOwner) int { return cmp.Compare(x.Number, y.Number) })
	case "log":
		if log >= 0 {
			return before, api.ErrHave
		}
		if len(s.Logs) == 100 {
			return before, api.ErrFull
		}
		next := here(l.number(1), l.letters(), l.number(3), 0)
		if can := wornOf(s, l.letters()); len(can) == 1 {
			next.Owner = can[0]
		}
		s.Logs = append(s.Logs, next)
	case "claim":
		x, isOwner := owners[l.number(2)]
		if log < 0 || !isOwner {
			return before, api.ErrNone
		}
		if s.Logs[log].Owner != 0 {
			return before, api.ErrState
		}
		if !isWorn(x.Mark, s.Logs[log].Seen) {
			return before, api.ErrMark
		}
		s.Logs[log].Owner = x.Number
	case "raft":
		if owner < 0 {
			return before, api.ErrNone
		}
		are := hereOf(s, l.number(1))
		if int64(len(are)) < l.number(2) {
			return before, api.ErrMany
		}
		for _, i := range are[:l.number(2)] {
			s.Logs[i].Gone = true
		}
	case "pay":
		if owner < 0 {
			return before, api.ErrNone
		}
		if l.number(2) > feesOf(s, l.number(1))-s.Owners[owner].Paid {
			return before, api.ErrOver
		}
		s.Owners[owner].Paid += l.number(2)
	}
	return s, api.OK
}

// again returns the season of lines with some numbers, done again in their order from the season without owners and logs on, and whether none returns an error.
func again(lines []line, numbers []int) (api.Season, bool) {
	var s api.Season
	for _, number := range numbers {
		next, e := done(s, lines[number-1])
		if e != api.OK {
			return api.Season{}, false
		}
		s = next
	}
	return s, true
}

// after is what there is after a line: the season, the error of the line, and the lines that are in effect.
type after struct {
	s      api.Season
	e      api.Errno
	effect []int
}

// boards returns what there is after each line, first of all before the first one.
func boards(lines []line) []after {
	l := []after{{}}
	for i, x := range lines {
		next := l[i]
		next.effect = slices.Clone(next.effect)
		if x[0] != "strike" {
			next.s, next.e = done(next.s, x)
			if next.e == api.OK {
				next.effect = append(next.effect, i+1)
			}
			l = append(l, next)
			continue
		}
		struck := int(x.number(1))
		at := slices.Index(next.effect, struck)
		next.e = api.OK
		switch {
		case struck >= i+1:
			next.e = api.ErrRange
		case at < 0:
			next.e = api.ErrNone
		default:
			without := slices.Delete(slices.Clone(next.effect), at, at+1)
			s, areDone := again(lines, without)
			if areDone {
				next.s, next.effect = s, without
			} else {
				next.e = api.ErrPlan
			}
		}
		l = append(l, next)
	}
	return l
}

var (
	ownerOfFile = regexp.MustCompile(`^owner (0|[1-9][0-9]{0,17}) ([a-z]+) (0|[1-9][0-9]{0,17})$`)
	logOfFile   = regexp.MustCompile(`^log (0|[1-9][0-9]{0,17}) ([a-z]+|-) (0|[1-9][0-9]{0,17}) (0|[1-9][0-9]{0,17}) (here|gone)$`)
)

// loaded returns the season of a file, or the error of Load.
func loaded(file string) (api.Season, api.Errno) {
	if len(file) > 16_000 {
		return api.Season{}, api.ErrLong
	}
	var s api.Season
	rest := file
	for rest != "" {
		written, next, isEnded := strings.Cut(rest, "\n")
		if !isEnded {
			return api.Season{}, api.ErrForm
		}
		rest = next
		if l := line(ownerOfFile.FindStringSubmatch(written)); l != nil && len(s.Logs) == 0 {
			s.Owners = append(s.Owners, own(l.number(1), l[2], l.number(3)))
			continue
		}
		l := line(logOfFile.FindStringSubmatch(written))
		if l == nil {
			return api.Season{}, api.ErrForm
		}
		s.Logs = append(s.Logs, api.SeasonLog{Number: l.number(1), Seen: l.letters(), Feet: l.number(3), Owner: l.number(4), Gone: l[5] == "gone"})
	}
	if e := errorOf(s); e != api.OK {
		return api.Season{}, e
	}
	return s, api.OK
}

// Texts to test.

// one returns an element of a list.
func one[T any](r *rand.Rand, l ...T) T { return l[r.IntN(len(l))] }

// desk is where lines are written: so many owners and logs have numbers, and marks have so many letters.
type desk struct {
	r                     *rand.Rand
	owners, logs, letters int
}

// mark returns a mark, and seen what is seen.
func (d desk) mark() string {
	for {
		if s := d.seen(); s != "-" {
			return s
		}
	}
}

func (d desk) seen() string {
	s := ""
	for i := range d.letters {
		if len(s) < 8 && d.r.IntN(3) == 0 {
			s += string(rune('a' + i))
		}
	}
	return cmp.Or(s, "-")
}

func (d desk) owner() int { return 1 + d.r.IntN(d.owners) }

func (d desk) log() int { return 1 + d.r.IntN(d.logs) }

// next returns the line with a number.
func (d desk) next(number int) string {
	switch d.r.IntN(12) {
	case 0, 1:
		return fmt.Sprint("mark ", d.owner(), " ", d.mark())
	case 2, 3, 4:
		return fmt.Sprint("log ", d.log(), " ", d.seen(), " ", one(d.r, 1, 9, 10, 19, 20, 57))
	case 5, 6:
		return fmt.Sprint("claim ", d.log(), " ", d.owner())
	case 7:
		return fmt.Sprint("raft ", d.owner(), " ", 1+d.r.IntN(2))
	case 8:
		return fmt.Sprint("pay ", d.owner(), " ", 1+d.r.IntN(6))
	}
	return fmt.Sprint("strike ", min(200, 1+d.r.IntN(number+1)))
}

// lines returns so many lines.
func (d desk) lines(many int) []string {
	var l []string
	for i := range many {
		l = append(l, d.next(i+1))
	}
	return l
}

// short yields so many random texts of up to 16 lines.
func short(seed uint64, many int) iter.Seq[[]string] {
	return func(yield func([]string) bool) {
		r := rand.New(rand.NewPCG(seed, 12))
		for range many {
			d := desk{r, 1 + r.IntN(4), 1 + r.IntN(6), 1 + r.IntN(4)}
			if !yield(d.lines(r.IntN(17))) {
				return
			}
		}
	}
}

// long yields so many random texts of up to 200 lines, with few or many owners and logs; half of them begin with marks, or with logs.
func long(seed uint64, many int) iter.Seq[[]string] {
	return func(yield func([]string) bool) {
		r := rand.New(rand.NewPCG(seed, 12))
		for i := range many {
			d := desk{r, list(3, 24, 8)[i%3], one(r, 5, 30, 120), one(r, 3, 6, 26)}
			var l []string
			switch i % 4 {
			case 1:
				l = marks(d.owners)
			case 2:
				l = comings(d.logs)
			}
			for len(l) < 200 && r.IntN(150) > 0 {
				l = append(l, d.next(len(l)+1))
			}
			if !yield(l) {
				return
			}
		}
	}
}

// all yields all texts of up to so many lines of some.
func all(many int, lines ...string) iter.Seq[[]string] {
	return func(yield func([]string) bool) { add(nil, many, lines, yield) }
}

func add(text []string, many int, lines []string, yield func([]string) bool) bool {
	if !yield(slices.Clone(text)) {
		return false
	}
	for _, next := range lines {
		if many > 0 && !add(append(text, next), many-1, lines, yield) {
			return false
		}
	}
	return true
}

// few are lines of which all texts are tested.
func few() []string {
	return []string{"mark 1 a", "mark 2 ab", "mark 2 b", "log 1 a 10", "log 2 - 9", "log 2 b 1", "claim 1 2", "claim 2 1", "raft 1 1", "raft 2 1", "pay 1 3", "pay 2 4", "strike 1", "strike 2", "strike 3"}
}

// texts yields short and long random texts.
func texts(seed uint64, many int) iter.Seq[[]string] {
	return func(yield func([]string) bool) {
		for l := range short(seed, many) {
			if !yield(l) {
				return
			}
		}
		for l := range long(seed, many/50) {
			if !yield(l) {
				return
			}
		}
	}
}

// What functions return for texts and seasons that are right.

// must returns the result of a call that is right.
func must[T any](t *testing.T, x T, e api.Errno) T {
	t.Helper()
	if e != api.OK {
		t.Fatalf("error %d", e)
	}
	return x
}

// run returns the season after all lines, and their errors.
func run(t *testing.T, lines []string) (api.Season, []api.Errno) {
	t.Helper()
	s, errors, e := season.Run(text(lines...))
	return must(t, s, e), errors
}

// board returns the season after so many lines.
func board(t *testing.T, lines []string, many int) api.Season {
	t.Helper()
	s, e := season.Board(text(lines...), many)
	return must(t, s, e)
}

// effect returns which lines are in effect.
func effect(t *testing.T, lines []string) []int {
	t.Helper()
	l, e := season.Effect(text(lines...))
	return must(t, l, e)
}

// plain returns the lines of the plain book.
func plain(t *testing.T, lines []string) []string {
	t.Helper()
	s, e := season.Plain(text(lines...))
	var l []string
	for written := range strings.Lines(must(t, s, e)) {
		_, of, _ := strings.Cut(strings.TrimSuffix(written, "\n"), " ")
		l = append(l, of)
	}
	return l
}

// agrees checks all that functions return for lines.
func agrees(t *testing.T, lines []string) {
	t.Helper()
	written, e := linesOf(text(lines...))
	if e != api.OK {
		t.Fatalf("%q: error %d", lines, e)
	}
	want := boards(written)
	last := want[len(lines)]
	var errors []api.Errno
	for _, x := range want[1:] {
		errors = append(errors, x.e)
	}
	played{lines, last.s, errors, last.effect}.isAsTold(t)
	for i, x := range want {
		// The season of the lines in effect is that after the lines.
		redone, areDone := again(written, x.effect)
		if s := board(t, lines, i); !same(s, x.s) || !areDone || !same(s, redone) {
			t.Errorf("Board %d of %q is %v, want %v, and again %v", i, lines, s, x.s, redone)
		}
	}
	if t.Failed() {
		t.FailNow()
	}
}

func TestTextsAgainstDefinition(t *testing.T) { // P12.2, P12.3
	for lines := range all(4, few()...) {
		agrees(t, lines)
	}
	for lines := range short(1, 6000) {
		agrees(t, lines)
	}
	for lines := range long(2, 30) {
		agrees(t, lines)
	}
}

// That the random texts have lines with all errors, and strikes that are done.
func TestTextsHaveAll(t *testing.T) {
	found := map[string]int{}
	for lines := range texts(3, 3000) {
		_, errors := run(t, lines)
		for i, e := range errors {
			word, _, _ := strings.Cut(lines[i], " ")
			found[fmt.Sprint(word, " ", e)]++
		}
	}
	for word, errors := range map[string][]api.Errno{
		"mark": {api.OK, api.ErrHave, api.ErrFull}, "log": {api.OK, api.ErrHave, api.ErrFull}, "claim": {api.OK, api.ErrNone, api.ErrState, api.ErrMark},
		"raft": {api.OK, api.ErrNone, api.ErrMany}, "pay": {api.OK, api.ErrNone, api.ErrOver}, "strike": {api.OK, api.ErrRange, api.ErrNone, api.ErrPlan},
	} {
		for _, e := range errors {
			if found[fmt.Sprint(word, " ", e)] < 10 {
				t.Errorf("%s with error %d: %d", word, e, found[fmt.Sprint(word, " ", e)])
			}
			delete(found, fmt.Sprint(word, " ", e))
		}
	}
	if len(found) > 0 {
		t.Error(slices.Sorted(maps.Keys(found)))
	}
}

// spoiledText returns a text of which some bytes are changed.
func spoiledText(r *rand.Rand, s string) string {
	b := []byte(s)
	for range 1 + r.IntN(2) {
		at := r.IntN(len(b) + 1)
		other := []byte(one(r, "", " ", "\n", "0", "1", "9", "-", "a", "b", "z", "A", "{", "99", "1 ", " a", "log", "claim 1 1\n", "\xff"))
		b = slices.Replace(b, at, min(len(b), at+r.IntN(3)), other...)
	}
	return string(b)
}

func TestSpoiledTexts(t *testing.T) { // P12.2, P12.3, R1, R2, R7
	a := answers{t}
	r := rand.New(rand.NewPCG(4, 12))
	for lines := range short(4, 8000) {
		s := spoiledText(r, text(lines...))
		_, e := linesOf(s)
		a.ofText(s, e)
		if t.Failed() {
			t.FailNow()
		}
	}
}

// Seasons to test.

// anySeason returns a season that is valid.
func anySeason(r *rand.Rand, owners, logs, letters int) api.Season {
	d := desk{r, owners, logs, letters}
	var s api.Season
	marks := map[string]bool{}
	for i := range owners {
		if mark := d.mark(); !marks[mark] {
			marks[mark] = true
			s.Owners = append(s.Owners, own(one(r, int64(i+1), int64(3*i+1), 1<<40-int64(owners-1-i)), mark, 0))
		}
	}
	slices.SortFunc(s.Owners, func(x, y api.SeasonOwner) int { return cmp.Compare(x.Number, y.Number) })
	s.Owners = slices.CompactFunc(s.Owners, func(x, y api.SeasonOwner) bool { return x.Number == y.Number })
	for _, i := range r.Perm(logs) {
		l := here(one(r, int64(i+1), 1<<40-int64(i)), strings.TrimPrefix(d.seen(), "-"), one(r, 1, 9, 10, 11, 10_000, 1+r.Int64N(10_000)), 0)
		if can := wornOf(s, l.Seen); len(can) > 0 && r.IntN(4) > 0 {
			l.Owner = one(r, can...)
			l.Gone = r.IntN(2) > 0
		}
		s.Logs = append(s.Logs, l)
	}
	for i, x := range s.Owners {
		fees := feesOf(s, x.Number)
		s.Owners[i].Paid = one(r, 0, fees, r.Int64N(fees+1))
	}
	return s
}

// seasons yields so many valid seasons: random ones, some at the limits, and those of texts.
func seasons(seed uint64, many int) iter.Seq[api.Season] {
	return func(yield func(api.Season) bool) {
		r := rand.New(rand.NewPCG(seed, 12))
		for i := range many {
			owners, logs := r.IntN(5), r.IntN(7)
			if i%20 == 0 {
				owners, logs = r.IntN(21), r.IntN(101)
			}
			if !yield(anySeason(r, owners, logs, 1+r.IntN(6))) {
				return
			}
		}
		for lines := range texts(seed, many/10) {
			written, _ := linesOf(text(lines...))
			if !yield(boards(written)[len(lines)].s) {
				return
			}
		}
	}
}

// odd returns a number that is often wrong.
func odd(r *rand.Rand) int64 {
	return one(r, longs(math.MinInt64, math.MinInt64+1, -1<<40, -1, 0, 1, 2, 3, 4, 5, 6, 7, 1003, 10_000, 10_001, 1<<32, 1<<40-1, 1<<40, 1<<40+1, 999_999_999_999_999_999, 1_000_000_000_000_000_000, math.MaxInt64-1, math.MaxInt64)...)
}

// oddSeen returns what is seen, or nearly.
func oddSeen(r *rand.Rand) string {
	return one(r, "", "a", "b", "c", "ab", "bc", "abc", "abcdefgh", "abcdefghi", "ba", "aa", "abb", "-", "A", "aB", " ", "a b", "{", "`", "ä", "\xff", "\n")
}

// spoil changes something of a season.
func spoil(r *rand.Rand, s *api.Season) {
	owners, logs := max(1, len(s.Owners)), max(1, len(s.Logs))
	if len(s.Owners) == 0 {
		s.Owners = append(s.Owners, own(1, "a", 0))
	}
	if len(s.Logs) == 0 {
		s.Logs = append(s.Logs, here(1, "a", 1, 0))
	}
	owner, log := &s.Owners[r.IntN(owners)], &s.Logs[r.IntN(logs)]
	switch r.IntN(13) {
	case 0:
		owner.Number = odd(r)
	case 1:
		owner.Mark = oddSeen(r)
	case 2:
		owner.Paid = odd(r)
	case 3:
		owner.Paid = feesOf(*s, owner.Number) + r.Int64N(2)
	case 4:
		log.Number = odd(r)
	case 5:
		log.Seen = oddSeen(r)
	case 6:
		log.Feet = odd(r)
	case 7:
		log.Owner = one(r, odd(r), s.Owners[r.IntN(owners)].Number)
	case 8:
		log.Gone = !log.Gone
	case 9:
		i, j := r.IntN(owners), r.IntN(owners)
		s.Owners[i], s.Owners[j] = s.Owners[j], s.Owners[i]
	case 10:
		s.Owners = append(s.Owners, own(odd(r), oddSeen(r), 0))
	case 11:
		s.Logs = append(s.Logs, here(odd(r), oddSeen(r), 1+r.Int64N(20), one(r, 0, s.Owners[0].Number)))
	case 12:
		if r.IntN(4) == 0 {
			s.Owners = append(s.Owners, make([]api.SeasonOwner, 17+r.IntN(5))...)
		} else if r.IntN(4) == 0 {
			s.Logs = append(s.Logs, make([]api.SeasonLog, 94+r.IntN(7))...)
		}
	}
}

// tiny yields all seasons of one owner and one log with some numbers and letters.
func tiny() iter.Seq[api.Season] {
	return func(yield func(api.Season) bool) {
		for _, mark := range []string{"", "a", "ab", "ba"} {
			for _, seen := range []string{"", "a", "b", "-"} {
				for code := range int64(3 * 3 * 4 * 3 * 3 * 2) {
					digit := func(of int64) int64 {
						d := code % of
						code /= of
						return d
					}
					s := of(owners(own(digit(3), mark, digit(3)*3-2)), logs(here(digit(4)-1, seen, digit(3)*9999, digit(3)-1)))
					s.Logs[0].Gone = digit(2) > 0
					if !yield(s) {
						return
					}
				}
			}
		}
	}
}

func TestCheckSeasonAgainstDefinition(t *testing.T) { // P12.1, R1, R2, R5
	a := answers{t}
	found := map[api.Errno]int{}
	check := func(s api.Season) {
		e := errorOf(s)
		found[e]++
		a.ofSeason(s, e)
		if t.Failed() {
			t.FailNow()
		}
	}
	for s := range tiny() {
		check(s)
	}
	r := rand.New(rand.NewPCG(5, 12))
	for s := range seasons(5, 6000) {
		check(s)
		for range 1 + r.IntN(3) {
			spoil(r, &s)
		}
		check(s)
	}
	for _, e := range errnos(api.OK, api.ErrMany, api.ErrForm, api.ErrRange, api.ErrHave, api.ErrNone, api.ErrRule, api.ErrSum) {
		if found[e] < 100 {
			t.Errorf("error %d: %d seasons", e, found[e])
		}
	}
}

func TestFileAndLoadAgainstDefinition(t *testing.T) { // P12.4, R1, R2, R7
	r := rand.New(rand.NewPCG(6, 12))
	found := map[api.Errno]int{}
	check := func(file string) {
		want, e := loaded(file)
		found[e]++
		if s, got := season.Load(file); !same(s, want) || got != e {
			t.Fatalf("Load of\n%sis %v, %d, want %v, %d", file, s, got, want, e)
		}
	}
	for s := range seasons(6, 3000) {
		if file, e := season.File(s); file != fileOf(s) || e != api.OK {
			t.Fatalf("File of %v is\n%s%d", s, file, e)
		}
		check(fileOf(s))
		check(spoiledText(r, fileOf(s)))
		spoil(r, &s)
		check(fileOf(s))
		spoil(r, &s)
		check(fileOf(s))
	}
	for _, e := range errnos(api.OK, api.ErrMany, api.ErrForm, api.ErrRange, api.ErrHave, api.ErrNone, api.ErrRule, api.ErrSum) {
		if found[e] < 20 {
			t.Errorf("error %d: %d files", e, found[e])
		}
	}
}

func TestWornOwedAndHereAgainstDefinition(t *testing.T) { // P12.5, P12.6
	r := rand.New(rand.NewPCG(7, 12))
	a := answers{t}
	for s := range seasons(7, 4000) {
		for range 3 {
			seen := one(r, oddSeen(r), strings.TrimPrefix(desk{r, 1, 1, 5}.seen(), "-"))
			if !isSeen(seen) {
				a.ofWorn(s, seen, api.ErrForm)
				continue
			}
			if l, e := season.Worn(s, seen); !slices.Equal(l, wornOf(s, seen)) || e != api.OK {
				t.Fatalf("Worn of %v, %q: %v, %d, want %v", s, seen, l, e, wornOf(s, seen))
			}
		}
		owners := ownersOf(s)
		for _, number := range longs(0, 1, 2, 3, 1<<40, odd(r)) {
			owners[number] = owners[number]
		}
		for number, x := range owners {
			if x.Number == 0 {
				a.ofOwner(s, number, api.ErrNone)
				continue
			}
			if n, e := season.Owed(s, number); n != feesOf(s, number)-x.Paid || e != api.OK {
				t.Fatalf("Owed of %v, %d: %d, %d", s, number, n, e)
			}
			if l, e := season.Here(s, number); !slices.Equal(l, numbersOf(s, hereOf(s, number))) || e != api.OK {
				t.Fatalf("Here of %v, %d: %v, %d", s, number, l, e)
			}
		}
		if t.Failed() {
			t.FailNow()
		}
	}
}

// The properties.

// counted returns the numbers from 1 on.
func counted(many int) []int {
	var l []int
	for i := range many {
		l = append(l, i+1)
	}
	return l
}

func TestPlayed(t *testing.T) { // P12.7, G12
	for lines := range texts(11, 4000) {
		s, _ := run(t, lines)
		book := plain(t, lines)
		again, errors := run(t, book)
		if !same(again, s) || !slices.Equal(errors, make([]api.Errno, len(book))) {
			t.Fatalf("%q: %v, played again from %q %v, %v", lines, s, book, again, errors)
		}
		if l := effect(t, book); !slices.Equal(l, counted(len(book))) || len(l) != len(effect(t, lines)) {
			t.Fatalf("%q: in effect are %v of %q", lines, l, book)
		}
		if other := plain(t, book); !slices.Equal(other, book) {
			t.Fatalf("%q: the plain book of %q is %q", lines, book, other)
		}
	}
}

func TestStruck(t *testing.T) { // P12.8
	for lines := range texts(12, 2000) {
		_, errors := run(t, lines)
		for i, e := range errors {
			if e != api.OK || strings.HasPrefix(lines[i], "strike") || i+3 > 200 {
				continue
			}
			strike := fmt.Sprintf("strike %d", i+1)
			struck := append(slices.Clone(lines[:i+1]), strike, strike)
			s, l := run(t, struck)
			if !same(s, board(t, lines, i)) || !slices.Equal(l[i+1:], errnos(api.OK, api.ErrNone)) {
				t.Fatalf("%q: %v, %v, before %v", struck, s, l, board(t, lines, i))
			}
			if got := effect(t, struck); !slices.Equal(got, effect(t, lines[:i])) {
				t.Fatalf("%q: in effect are %v", struck, got)
			}
		}
	}
}

func TestStruckOnce(t *testing.T) { // P12.8
	for lines := range texts(13, 3000) {
		if len(lines) == 200 {
			lines = lines[:199]
		}
		_, errors := run(t, lines)
		for i, e := range errors {
			if e != api.OK || !strings.HasPrefix(lines[i], "strike") {
				continue
			}
			if _, l := run(t, append(slices.Clone(lines), lines[i])); l[len(lines)] != api.ErrNone {
				t.Fatalf("%q: %q is done again, %v", lines, lines[i], l)
			}
		}
	}
}

func TestBegun(t *testing.T) { // P12.9
	r := rand.New(rand.NewPCG(14, 12))
	for lines := range texts(14, 1500) {
		_, errors := run(t, lines)
		for i, e := range errors {
			if e != api.OK && !same(board(t, lines, i), board(t, lines, i+1)) {
				t.Fatalf("%q: line %d is refused, but changes %v to %v", lines, i+1, board(t, lines, i), board(t, lines, i+1))
			}
		}
		many := r.IntN(len(lines) + 1)
		s, l := run(t, lines[:many])
		if !same(s, board(t, lines, many)) || !slices.Equal(l, errors[:many]) {
			t.Fatalf("%q: the first %d lines alone %v, %v", lines, many, s, l)
		}
		other := append(slices.Clone(lines[:many]), desk{r, 3, 4, 3}.lines(min(5, 200-many))...)
		if again := board(t, other, many); !same(s, again) {
			t.Fatalf("%q: after %d lines %v, with other ones behind %v", lines, many, s, again)
		}
	}
}

func TestOwed(t *testing.T) { // P12.10
	for s := range seasons(15, 5000) {
		var paid, owed, fees int64
		for _, x := range s.Owners {
			n, e := season.Owed(s, x.Number)
			owed += must(t, n, e)
			paid += x.Paid
		}
		for _, l := range s.Logs {
			if l.Owner != 0 {
				fees += fee(l)
			}
		}
		if paid+owed != fees {
			t.Fatalf("%v: %d paid, %d owed, fees %d", s, paid, owed, fees)
		}
	}
}

func TestGiven(t *testing.T) { // P12.11
	for lines := range texts(16, 1200) {
		_, errors := run(t, lines)
		for i, e := range errors {
			s := board(t, lines, i+1)
			for _, l := range s.Logs {
				worn, e := season.Worn(s, l.Seen)
				if can := must(t, worn, e); l.Owner != 0 && !slices.Contains(can, l.Owner) {
					t.Fatalf("%q: after line %d the log %v is not one of %v", lines, i+1, l, can)
				}
			}
			if e != api.OK || !strings.HasPrefix(lines[i], "log") {
				continue
			}
			l := s.Logs[len(s.Logs)-1]
			worn, e := season.Worn(board(t, lines, i), l.Seen)
			can := must(t, worn, e)
			if (l.Owner != 0) != (len(can) == 1) || l.Owner != 0 && l.Owner != can[0] {
				t.Fatalf("%q: line %d brings %v, which is one of %v", lines, i+1, l, can)
			}
		}
	}
}

func TestFiled(t *testing.T) { // P12.12, G12
	r := rand.New(rand.NewPCG(17, 12))
	many := 0
	for s := range seasons(17, 5000) {
		file, e := season.File(s)
		got, ofLoad := season.Load(must(t, file, e))
		if !same(must(t, got, ofLoad), s) {
			t.Fatalf("%v: loaded %v", s, got)
		}
		spoiled := spoiledText(r, file)
		got, e = season.Load(spoiled)
		if e != api.OK {
			continue
		}
		many++
		if again, e := season.File(got); again != spoiled || e != api.OK {
			t.Fatalf("the file of what is loaded from\n%sis\n%s%d", spoiled, again, e)
		}
	}
	if many < 200 {
		t.Error(many)
	}
}

func TestRafted(t *testing.T) { // P12.13
	hereAt := func(lines []string, many int, owner int64) []int64 {
		l, e := season.Here(board(t, lines, many), owner)
		return must(t, l, e)
	}
	for lines := range texts(18, 6000) {
		_, errors := run(t, lines)
		for i, e := range errors {
			if e != api.OK || !strings.HasPrefix(lines[i], "raft") {
				continue
			}
			l, _ := lineOf(lines[i])
			before, after := hereAt(lines, i, l.number(1)), hereAt(lines, i+1, l.number(1))
			if !slices.Equal(after, before[l.number(2):]) {
				t.Fatalf("%q: line %d leaves %v of %v", lines, i+1, after, before)
			}
		}
	}
}

func TestAdded(t *testing.T) { // P12.14
	for lines := range texts(19, 1500) {
		for len(lines) < 200 {
			l := effect(t, lines)
			if len(l) == 0 {
				break
			}
			last := l[len(l)-1]
			lines = append(slices.Clone(lines), fmt.Sprintf("strike %d", last))
			if _, errors := run(t, lines); errors[len(lines)-1] != api.OK {
				t.Fatalf("%q: the last line in effect cannot be struck: %v", lines, errors)
			}
			if now := effect(t, lines); !slices.Equal(now, l[:len(l)-1]) {
				t.Fatalf("%q: %v, then %v", lines, l, now)
			}
		}
	}
}

// What a text comes to is always a valid season.
func TestSeasonsOfTexts(t *testing.T) { // P12.1, P12.2
	for lines := range texts(20, 1500) {
		for i := range len(lines) + 1 {
			if s := board(t, lines, i); season.CheckSeason(s) != api.OK {
				t.Fatalf("%q: after %d lines %v", lines, i, s)
			}
		}
	}
}

// The rules.

// call is the arguments of all functions.
type call struct {
	text, file, seen string
	line             int
	s                api.Season
	owner            int64
}

// callOf returns a call with arguments that are right.
func callOf(r *rand.Rand, lines []string) call {
	written, _ := linesOf(text(lines...))
	all := boards(written)
	c := call{text: text(lines...), line: r.IntN(len(all)), s: all[r.IntN(len(all))].s}
	c.file = fileOf(c.s)
	if len(c.s.Owners) > 0 {
		c.owner = one(r, c.s.Owners...).Number
		c.seen = one(r, c.s.Owners...).Mark[:1]
	}
	return c
}

// copied returns a call with lists of its own.
func (c call) copied() call {
	c.s = copyOf(c.s)
	return c
}

// calls returns some calls, among them such as are at the limits.
func calls() []call {
	r := rand.New(rand.NewPCG(21, 12))
	l := []call{
		{text: text(linesT()...), file: fileOf(plainSeason()), seen: "b", line: 9, s: plainSeason(), owner: 9},
		{text: text(append(marks(20), comings(100)...)...), file: fileOf(full()), line: 120, s: full(), owner: 1 << 40},
	}
	for lines := range texts(21, 400) {
		l = append(l, callOf(r, lines))
	}
	return l
}

// results returns what all functions return for these arguments.
func results(c call) []any {
	out := []any{season.CheckSeason(c.s)}
	add := func(x ...any) { out = append(out, x...) }
	s, errors, e := season.Run(c.text)
	add(s, errors, e)
	s, e = season.Board(c.text, c.line)
	add(s, e)
	effect, e := season.Effect(c.text)
	add(effect, e)
	plain, e := season.Plain(c.text)
	add(plain, e)
	file, e := season.File(c.s)
	add(file, e)
	s, e = season.Load(c.file)
	add(s, e)
	worn, e := season.Worn(c.s, c.seen)
	add(worn, e)
	owed, e := season.Owed(c.s, c.owner)
	add(owed, e)
	here, e := season.Here(c.s, c.owner)
	add(here, e)
	return out
}

// overwrite writes something over all that a list reaches.
func overwrite[T any](l []T, x T) {
	for i := range l[:cap(l)] {
		l[:cap(l)][i] = x
	}
}

// overwriteAll writes over all that results reach.
func overwriteAll(results []any) {
	for _, x := range results {
		switch l := x.(type) {
		case []int:
			overwrite(l, -9)
		case []int64:
			overwrite(l, -9)
		case []api.Errno:
			overwrite(l, -9)
		case api.Season:
			overwrite(l.Owners, own(-9, "?", -9))
			overwrite(l.Logs, gone(-9, "?", -9, -9))
		}
	}
}

func TestNothingSharedNorChanged(t *testing.T) { // R4, R9, R10
	for _, x := range calls() {
		c := x.copied()
		want := results(c)
		told := fmt.Sprint(want)
		overwriteAll(results(c))
		if !reflect.DeepEqual(c, x.copied()) {
			t.Errorf("arguments are changed: %v, not %v", c, x)
		}
		results(call{text: text(linesT()...), s: seasonT(), file: fileOf(seasonT())})
		results(call{text: "x", file: "x", s: of(make([]api.SeasonOwner, 1), nil)})
		results(call{})
		for range 2 {
			if got := results(c); !reflect.DeepEqual(got, want) {
				t.Fatalf("another result: %v, not %v", got, want)
			}
		}
		// What is done with arguments changes no result.
		overwrite(c.s.Owners, own(-9, "?", -9))
		overwrite(c.s.Logs, gone(-9, "?", -9, -9))
		if now := fmt.Sprint(want); now != told {
			t.Errorf("%s became %s", told, now)
		}
		// What is done with a result changes no other one.
		for i := range want {
			rest := slices.Delete(slices.Clone(want), i, i+1)
			told := fmt.Sprint(rest)
			overwriteAll(want[i : i+1])
			if now := fmt.Sprint(rest); now != told {
				t.Errorf("%s became %s", told, now)
			}
		}
	}
}

// longer returns a list behind the end of which there is something else.
func longer[T any](l []T, behind T) []T {
	return append(slices.Clone(l), slices.Repeat([]T{behind}, 30)...)[:len(l)]
}

// What is behind the end of a list that is an argument is neither read nor written.
func TestBehindTheEnd(t *testing.T) { // R4
	owner, log := own(7, "-", -7), gone(7, "-", -7, 7)
	for _, x := range calls() {
		c := x
		c.s = of(longer(x.s.Owners, owner), longer(x.s.Logs, log))
		if got, want := results(c), results(x); !reflect.DeepEqual(got, want) {
			t.Errorf("%v: %v, with other things behind the end %v", x, want, got)
		}
		owners, logs := c.s.Owners[len(c.s.Owners):len(c.s.Owners)+30], c.s.Logs[len(c.s.Logs):len(c.s.Logs)+30]
		if !slices.Equal(owners, slices.Repeat([]api.SeasonOwner{owner}, 30)) || !slices.Equal(logs, slices.Repeat([]api.SeasonLog{log}, 30)) {
			t.Errorf("%v: what is behind the end is changed: %v, %v", x, owners, logs)
		}
	}
}

func TestAllAtOnce(t *testing.T) { // R9, R10
	var group sync.WaitGroup
	for _, x := range calls() {
		group.Go(func() {
			want := results(x)
			for range 3 {
				if got := results(x); !reflect.DeepEqual(got, want) {
					t.Errorf("another result: %v, not %v", got, want)
				}
			}
		})
	}
	group.Wait()
}

func TestNilIsEmpty(t *testing.T) { // R3
	for _, s := range []api.Season{{}, of(owners(own(1, "a", 0)), nil), of(nil, logs(here(1, "a", 1, 0))), of(nil, logs(here(0, "a", 1, 0)))} {
		empty := of(append(owners(), s.Owners...), append(logs(), s.Logs...))
		for _, owner := range longs(0, 1, 2) {
			c := call{seen: "a", s: s, owner: owner}
			other := c
			other.s = empty
			if got, want := fmt.Sprint(results(other)), fmt.Sprint(results(c)); got != want {
				t.Errorf("%v: %s with nil, %s with empty lists", c, want, got)
			}
		}
	}
}

// check checks that all functions return the errors that they should, and beside them only zero values.
func (c call) check(t *testing.T) {
	t.Helper()
	a := answers{t}
	ofSeason := errorOf(c.s)
	a.ofSeason(c.s, ofSeason)
	ofWorn, ofOwner := ofSeason, ofSeason
	if ofSeason == api.OK {
		if !isSeen(c.seen) {
			ofWorn = api.ErrForm
		}
		if ownersOf(c.s)[c.owner].Number == 0 {
			ofOwner = api.ErrNone
		}
	}
	a.ofWorn(c.s, c.seen, ofWorn)
	a.ofOwner(c.s, c.owner, ofOwner)
	lines, ofText := linesOf(c.text)
	a.ofText(c.text, ofText)
	ofBoard := ofText
	if ofText == api.OK && (c.line < 0 || c.line > len(lines)) {
		ofBoard = api.ErrRange
	}
	a.ofBoard(c.text, c.line, ofBoard)
	_, ofFile := loaded(c.file)
	a.ofFile(c.file, ofFile)
}

// spoil changes something of a call.
func (c *call) spoil(r *rand.Rand) {
	switch r.IntN(6) {
	case 0:
		c.text = spoiledText(r, c.text)
	case 1:
		c.file = spoiledText(r, c.file)
	case 2:
		c.seen = oddSeen(r)
	case 3:
		c.line = int(odd(r))
	case 4:
		spoil(r, &c.s)
	case 5:
		c.owner = odd(r)
	}
}

func TestAnyArguments(t *testing.T) { // P1, R1, R2, R5
	r := rand.New(rand.NewPCG(22, 12))
	for lines := range texts(22, 4000) {
		c := callOf(r, lines)
		c.s = copyOf(c.s)
		for r.IntN(4) > 0 {
			c.spoil(r)
		}
		c.check(t)
		if t.Failed() {
			t.Fatalf("%v", c)
		}
	}
}
