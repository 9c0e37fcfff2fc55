package season_test

import (
	"fmt"
	"math"
	"slices"
	"strings"
	"testing"

	"peavey/api"
	"peavey/season"
)

func list(x ...int) []int                           { return x }
func longs(x ...int64) []int64                      { return x }
func errnos(x ...api.Errno) []api.Errno             { return x }
func owners(x ...api.SeasonOwner) []api.SeasonOwner { return x }
func logs(x ...api.SeasonLog) []api.SeasonLog       { return x }

func own(number int64, mark string, paid int64) api.SeasonOwner {
	return api.SeasonOwner{Number: number, Mark: mark, Paid: paid}
}

// here and gone are logs.
func here(number int64, seen string, feet, owner int64) api.SeasonLog {
	return api.SeasonLog{Number: number, Seen: seen, Feet: feet, Owner: owner}
}

func gone(number int64, seen string, feet, owner int64) api.SeasonLog {
	l := here(number, seen, feet, owner)
	l.Gone = true
	return l
}

func of(owners []api.SeasonOwner, logs []api.SeasonLog) api.Season {
	return api.Season{Owners: owners, Logs: logs}
}

// text is the text of lines, which get their numbers.
func text(lines ...string) string {
	var s strings.Builder
	for i, line := range lines {
		fmt.Fprintf(&s, "%d %s\n", i+1, line)
	}
	return s.String()
}

// same reports whether two seasons are equal.
func same(s, other api.Season) bool {
	return slices.Equal(s.Owners, other.Owners) && slices.Equal(s.Logs, other.Logs)
}

// isZero reports whether a season is the zero value.
func isZero(s api.Season) bool { return same(s, api.Season{}) }

// linesT are the lines of the text T of the chapter, seasonT is its season.
func linesT() []string {
	return []string{
		"mark 7 abe", "mark 5 bcd", "log 1 ae 120", "log 2 b 45", "log 3 - 9", "claim 2 5", "raft 7 2",
		"pay 7 10", "strike 2", "mark 5 be", "claim 3 7", "strike 11", "log 4 be 300", "strike 6",
	}
}

func seasonT() api.Season {
	return of(owners(own(5, "bcd", 0), own(7, "abe", 10)), logs(here(1, "ae", 120, 7), here(2, "b", 45, 0), here(3, "", 9, 0), here(4, "be", 300, 7)))
}

// plainSeason is a season with something of everything.
func plainSeason() api.Season {
	return of(
		owners(own(2, "ab", 5), own(6, "bcz", 0), own(9, "x", 4)),
		logs(here(30, "a", 25, 2), gone(20, "", 10, 6), here(10, "q", 7, 0), here(40, "", 9_999, 0), gone(25, "x", 19, 9), here(50, "x", 1, 9)),
	)
}

// changed is this season with something else.
func changed(changes ...func(*api.Season)) api.Season {
	s := plainSeason()
	for _, change := range changes {
		change(&s)
	}
	return s
}

// full is a season with as much of everything as can be.
func full() api.Season {
	var s api.Season
	for i := range int64(20) {
		s.Owners = append(s.Owners, own(1<<40-19+i, string(rune('a'+i))+"uvwxyz", 5*1003))
	}
	for i := range int64(100) {
		o := s.Owners[i%20]
		s.Logs = append(s.Logs, gone(1<<40-i, o.Mark, 10_000, o.Number))
	}
	return s
}

// answers checks the errors that functions return, and what comes with them.
type answers struct {
	t *testing.T
}

// is checks an error, and that what comes with one is zero.
func (a answers) is(name string, args any, e, want api.Errno, zero bool) {
	a.t.Helper()
	if e != want || want != api.OK && !zero {
		a.t.Errorf("%s of %v: error %d, want %d; zero values: %t", name, args, e, want, zero)
	}
}

// ofSeason checks that the functions that take a season return an error, with other arguments that are right if it is OK.
func (a answers) ofSeason(s api.Season, want api.Errno) {
	a.t.Helper()
	a.is("CheckSeason", s, season.CheckSeason(s), want, true)
	file, e := season.File(s)
	a.is("File", s, e, want, file == "")
	a.ofWorn(s, "", want)
	ofOwner := want
	if want == api.OK {
		ofOwner = api.ErrNone
	}
	a.ofOwner(s, 0, ofOwner)
	if want != api.OK {
		a.ofWorn(s, "A", want)
		a.ofOwner(s, 2, want)
	}
}

// ofWorn, ofOwner, ofText, ofBoard and ofFile check that the other functions return an error.
func (a answers) ofWorn(s api.Season, seen string, want api.Errno) {
	a.t.Helper()
	l, e := season.Worn(s, seen)
	a.is("Worn", []any{s, seen}, e, want, len(l) == 0)
}

func (a answers) ofOwner(s api.Season, owner int64, want api.Errno) {
	a.t.Helper()
	n, e := season.Owed(s, owner)
	a.is("Owed", []any{s, owner}, e, want, n == 0)
	l, e := season.Here(s, owner)
	a.is("Here", []any{s, owner}, e, want, len(l) == 0)
}

func (a answers) ofText(text string, want api.Errno) {
	a.t.Helper()
	s, errors, e := season.Run(text)
	a.is("Run", text, e, want, isZero(s) && len(errors) == 0)
	effect, e := season.Effect(text)
	a.is("Effect", text, e, want, len(effect) == 0)
	plain, e := season.Plain(text)
	a.is("Plain", text, e, want, plain == "")
	a.ofBoard(text, 0, want)
	if want != api.OK {
		a.ofBoard(text, -1, want)
		a.ofBoard(text, math.MaxInt, want)
	}
}

func (a answers) ofBoard(text string, line int, want api.Errno) {
	a.t.Helper()
	s, e := season.Board(text, line)
	a.is("Board", []any{text, line}, e, want, isZero(s))
}

func (a answers) ofFile(file string, want api.Errno) {
	a.t.Helper()
	s, e := season.Load(file)
	a.is("Load", file, e, want, isZero(s))
}

func TestRightSeasons(t *testing.T) { // P12.1
	a := answers{t}
	for _, s := range []api.Season{
		{}, plainSeason(), seasonT(), full(),
		of(owners(own(1, "a", 0)), nil),
		of(owners(own(1<<40, "abcdefgh", 0)), nil),
		of(owners(own(1, "stuvwxyz", 0), own(2, "z", 0)), nil),
		of(nil, logs(here(1, "", 1, 0))),
		of(nil, logs(here(1<<40, "abcdefgh", 10_000, 0), here(1, "abcdefgh", 10_000, 0))),
		// an owner has the same number as a log, a log that of no owner is seen as his mark is
		of(owners(own(4, "k", 0)), logs(here(4, "k", 9, 4), here(5, "k", 9, 0))),
		// what is paid is from 0 to the fees
		of(owners(own(4, "k", 6)), logs(here(1, "k", 9, 4), gone(2, "", 9, 4))),
		of(owners(own(4, "k", 7)), logs(here(1, "k", 10, 4), gone(2, "", 9, 4))),
		of(owners(own(4, "k", 8)), logs(here(1, "k", 10, 4), gone(2, "", 19, 4))),
		of(owners(own(4, "k", 0)), logs(here(1, "k", 10, 4), gone(2, "", 19, 4))),
		of(owners(own(4, "k", 1003)), logs(here(1, "k", 10_000, 4), here(2, "k", 10_000, 0))),
	} {
		a.ofSeason(s, api.OK)
	}
}

// fault is a change of plainSeason that makes it wrong.
type fault struct {
	e      api.Errno
	change func(*api.Season)
}

// faults are in the order in which the errors are named. Those with different errors can be made together.
func faults() []fault {
	owner := func(e api.Errno, index int, change func(*api.SeasonOwner)) fault {
		return fault{e, func(s *api.Season) { change(&s.Owners[index]) }}
	}
	log := func(e api.Errno, index int, change func(*api.SeasonLog)) fault {
		return fault{e, func(s *api.Season) { change(&s.Logs[index]) }}
	}
	l := []fault{
		{api.ErrMany, func(s *api.Season) { s.Owners = append(s.Owners, make([]api.SeasonOwner, 21-len(s.Owners))...) }},
		{api.ErrMany, func(s *api.Season) { s.Logs = append(s.Logs, make([]api.SeasonLog, 101-len(s.Logs))...) }},
	}
	for _, mark := range []string{"", "-", "ba", "aa", "abb", "abcdefghi", "A", "aB", "a b", "a\n", "{", "`", "ä", "a1", "\xff"} {
		l = append(l, owner(api.ErrForm, 2, func(x *api.SeasonOwner) { x.Mark = mark }))
		if mark != "" {
			l = append(l, log(api.ErrForm, 3, func(x *api.SeasonLog) { x.Seen = mark }))
		}
	}
	for _, n := range longs(math.MinInt64, -1, 1<<40+1, math.MaxInt64) {
		l = append(l, owner(api.ErrRange, 1, func(x *api.SeasonOwner) { x.Number = n }))
		l = append(l, log(api.ErrRange, 1, func(x *api.SeasonLog) { x.Number = n }))
		l = append(l, log(api.ErrRange, 1, func(x *api.SeasonLog) { x.Owner = n }))
	}
	for _, n := range longs(math.MinInt64, -1, 0, 10_001, math.MaxInt64) {
		l = append(l, log(api.ErrRange, 1, func(x *api.SeasonLog) { x.Feet = n }))
	}
	return append(l,
		owner(api.ErrRange, 0, func(x *api.SeasonOwner) { x.Number = 0 }),
		log(api.ErrRange, 0, func(x *api.SeasonLog) { x.Number = 0 }),
		owner(api.ErrHave, 1, func(x *api.SeasonOwner) { x.Mark = "ab" }),
		owner(api.ErrHave, 0, func(x *api.SeasonOwner) { x.Number = 7 }),
		owner(api.ErrHave, 1, func(x *api.SeasonOwner) { x.Number = 2 }),
		owner(api.ErrHave, 1, func(x *api.SeasonOwner) { x.Number = 9 }),
		owner(api.ErrHave, 2, func(x *api.SeasonOwner) { x.Number = 1 }),
		log(api.ErrHave, 5, func(x *api.SeasonLog) { x.Number = 30 }),
		log(api.ErrHave, 2, func(x *api.SeasonLog) { x.Number = 20 }),
		log(api.ErrNone, 3, func(x *api.SeasonLog) { x.Owner = 30 }),
		log(api.ErrNone, 5, func(x *api.SeasonLog) { x.Owner = 1 }),
		log(api.ErrNone, 0, func(x *api.SeasonLog) { x.Owner = 1 << 40 }),
		log(api.ErrRule, 0, func(x *api.SeasonLog) { x.Seen = "z" }),
		log(api.ErrRule, 4, func(x *api.SeasonLog) { x.Seen = "xz" }),
		log(api.ErrRule, 2, func(x *api.SeasonLog) { x.Gone = true }),
		log(api.ErrRule, 3, func(x *api.SeasonLog) { x.Gone = true }),
		owner(api.ErrSum, 0, func(x *api.SeasonOwner) { x.Paid = 6 }),
		owner(api.ErrSum, 1, func(x *api.SeasonOwner) { x.Paid = 5 }),
		owner(api.ErrSum, 2, func(x *api.SeasonOwner) { x.Paid = 8 }),
		owner(api.ErrSum, 0, func(x *api.SeasonOwner) { x.Paid = -1 }),
		owner(api.ErrSum, 0, func(x *api.SeasonOwner) { x.Paid = math.MinInt64 }),
		owner(api.ErrSum, 0, func(x *api.SeasonOwner) { x.Paid = math.MaxInt64 }),
	)
}

func TestWrongSeasons(t *testing.T) { // P12.1, R1, R2, R5
	a := answers{t}
	l := faults()
	for i, x := range l {
		a.ofSeason(changed(x.change), x.e)
		for _, y := range l[i+1:] {
			if x.e != y.e {
				a.ofSeason(changed(y.change, x.change), x.e)
			}
		}
	}
}

func TestTooMuchInFullSeasons(t *testing.T) { // P12.1
	a := answers{t}
	s := full()
	s.Owners = append([]api.SeasonOwner{own(1, "abcdefgh", 0)}, s.Owners...)
	a.ofSeason(s, api.ErrMany)
	s = full()
	s.Logs = append(s.Logs, here(1, "", 1, 0))
	a.ofSeason(s, api.ErrMany)
	s = full()
	s.Owners[19].Paid++
	a.ofSeason(s, api.ErrSum)
}

// played is a text, what Run returns, and the numbers of the lines in effect.
type played struct {
	lines  []string
	s      api.Season
	errors []api.Errno
	effect []int
}

// isAsTold checks all that the functions that take a text return.
func (p played) isAsTold(t *testing.T) {
	t.Helper()
	book := text(p.lines...)
	s, errors, e := season.Run(book)
	if !same(s, p.s) || !slices.Equal(errors, p.errors) || e != api.OK {
		t.Errorf("Run of\n%sis %v, %v, %d, want %v, %v", book, s, errors, e, p.s, p.errors)
	}
	if s, e := season.Board(book, len(p.lines)); !same(s, p.s) || e != api.OK {
		t.Errorf("Board of\n%sis %v, %d, want %v", book, s, e, p.s)
	}
	effect, e := season.Effect(book)
	if !slices.Equal(effect, p.effect) || e != api.OK {
		t.Errorf("Effect of\n%sis %v, %d, want %v", book, effect, e, p.effect)
	}
	var inEffect []string
	for _, line := range p.effect {
		inEffect = append(inEffect, p.lines[line-1])
	}
	if plain, e := season.Plain(book); plain != text(inEffect...) || e != api.OK {
		t.Errorf("Plain of\n%sis\n%s%d", book, plain, e)
	}
}

func TestExampleT(t *testing.T) { // P12.2, P12.3, P12.5, P12.6
	errors := slices.Repeat(errnos(api.OK), 14)
	errors[6], errors[8], errors[9] = api.ErrMany, api.ErrPlan, api.ErrHave
	played{linesT(), seasonT(), errors, list(1, 2, 3, 4, 5, 8, 13)}.isAsTold(t)
	book := text(linesT()...)
	six := of(owners(own(5, "bcd", 0), own(7, "abe", 0)), logs(here(1, "ae", 120, 7), here(2, "b", 45, 5), here(3, "", 9, 0)))
	for line, want := range map[int]api.Season{0: {}, 1: of(owners(own(7, "abe", 0)), nil), 6: six, 7: six} {
		if s, e := season.Board(book, line); !same(s, want) || e != api.OK {
			t.Errorf("Board %d: %v, %d, want %v", line, s, e, want)
		}
	}
	a := answers{t}
	for _, line := range list(15, -1, 1<<32, math.MinInt, math.MaxInt) {
		a.ofBoard(book, line, api.ErrRange)
	}
	for seen, want := range map[string][]int64{"b": longs(5, 7), "be": longs(7), "x": nil, "": longs(5, 7)} {
		if l, e := season.Worn(seasonT(), seen); !slices.Equal(l, want) || e != api.OK {
			t.Errorf("Worn %q: %v, %d, want %v", seen, l, e, want)
		}
	}
	for owner, want := range map[int64]int64{7: 38, 5: 0} {
		if n, e := season.Owed(seasonT(), owner); n != want || e != api.OK {
			t.Errorf("Owed %d: %d, %d, want %d", owner, n, e, want)
		}
	}
	a.ofOwner(seasonT(), 9, api.ErrNone)
	if l, e := season.Here(seasonT(), 7); !slices.Equal(l, longs(1, 4)) || e != api.OK {
		t.Errorf("Here: %v, %d", l, e)
	}
}

// marks returns so many lines that bring owners with one letter each.
func marks(many int) []string {
	var l []string
	for i := range many {
		l = append(l, fmt.Sprintf("mark %d %c", 40-i, 'a'+i))
	}
	return l
}

// comings returns so many lines that bring prize logs.
func comings(many int) []string {
	var l []string
	for i := range many {
		l = append(l, fmt.Sprintf("log %d z %d", i+1, i+1))
	}
	return l
}

func TestMarks(t *testing.T) { // P12.2
	played{nil, api.Season{}, nil, nil}.isAsTold(t)
	played{
		[]string{"mark 5 b", "mark 9 a", "mark 1 abc", "mark 5 c", "mark 4 a", "mark 5 b", "mark 7 abcdefgh", "mark 1099511627776 z"},
		of(owners(own(1, "abc", 0), own(5, "b", 0), own(7, "abcdefgh", 0), own(9, "a", 0), own(1<<40, "z", 0)), nil),
		errnos(0, 0, 0, 11, 11, 11, 0, 0), list(1, 2, 3, 7, 8),
	}.isAsTold(t)
	// with 20 owners the next one is too much, but one that there is comes first
	lines := append(marks(20), "mark 1 y", "mark 30 y", "mark 1 c", "strike 20", "mark 1 y", "mark 2 x")
	_, errors, e := season.Run(text(lines...))
	if !slices.Equal(errors[:20], make([]api.Errno, 20)) || !slices.Equal(errors[20:], errnos(10, 11, 11, 0, 0, 10)) || e != api.OK {
		t.Error(errors, e)
	}
}

func TestLogs(t *testing.T) { // P12.2
	played{
		[]string{"log 3 - 9", "mark 5 ab", "log 1 - 10", "mark 4 bc", "log 8 b 1", "log 2 c 10000", "log 1 c 1", "log 7 abc 5", "log 6 bc 6", "log 9 - 2", "mark 6 b", "log 1099511627776 ab 3"},
		of(owners(own(4, "bc", 0), own(5, "ab", 0), own(6, "b", 0)), logs(here(3, "", 9, 0), here(1, "", 10, 5), here(8, "b", 1, 0),
			here(2, "c", 10_000, 4), here(7, "abc", 5, 0), here(6, "bc", 6, 4), here(9, "", 2, 0), here(1<<40, "ab", 3, 5))),
		errnos(0, 0, 0, 0, 0, 0, 11, 0, 0, 0, 0, 0), list(1, 2, 3, 4, 5, 6, 8, 9, 10, 11, 12),
	}.isAsTold(t)
	lines := append(comings(100), "log 101 z 1", "log 50 z 1", "strike 7", "log 101 z 1", "log 7 z 1")
	s, errors, e := season.Run(text(lines...))
	if !slices.Equal(errors[:100], make([]api.Errno, 100)) || !slices.Equal(errors[100:], errnos(10, 11, 0, 0, 10)) || e != api.OK {
		t.Error(errors, e)
	}
	if len(s.Logs) != 100 || s.Logs[6] != here(8, "z", 8, 0) || s.Logs[99] != here(101, "z", 1, 0) {
		t.Error(s)
	}
}

func TestClaims(t *testing.T) { // P12.2
	played{
		[]string{"mark 1 ab", "mark 2 bc", "log 5 b 9", "log 6 a 9", "log 7 x 9", "log 8 - 9",
			"claim 4 1", "claim 5 3", "claim 4 3", "claim 6 3", "claim 6 1", "claim 6 2", "claim 7 1", "claim 5 2", "claim 5 2", "claim 5 1", "claim 8 1", "claim 1 5"},
		of(owners(own(1, "ab", 0), own(2, "bc", 0)), logs(here(5, "b", 9, 2), here(6, "a", 9, 1), here(7, "x", 9, 0), here(8, "", 9, 1))),
		errnos(0, 0, 0, 0, 0, 0, 5, 5, 5, 5, 9, 9, 17, 0, 9, 9, 0, 5), list(1, 2, 3, 4, 5, 6, 14, 17),
	}.isAsTold(t)
}

func TestRafts(t *testing.T) { // P12.2
	played{
		[]string{"mark 1 a", "mark 2 b", "log 9 a 9", "log 5 b 9", "log 4 a 9", "log 8 - 9", "log 3 a 9",
			"raft 3 1", "raft 3 100", "raft 1 4", "raft 1 2", "raft 1 2", "raft 2 2", "raft 2 1", "raft 2 1", "claim 8 2", "raft 2 1", "raft 1 100"},
		of(owners(own(1, "a", 0), own(2, "b", 0)), logs(gone(9, "a", 9, 1), gone(5, "b", 9, 2), gone(4, "a", 9, 1), gone(8, "", 9, 2), here(3, "a", 9, 1))),
		errnos(0, 0, 0, 0, 0, 0, 0, 5, 5, 6, 0, 6, 6, 0, 6, 0, 0, 6), list(1, 2, 3, 4, 5, 6, 7, 11, 14, 16, 17),
	}.isAsTold(t)
}

func TestPays(t *testing.T) { // P12.2
	played{
		[]string{"mark 1 a", "mark 2 b", "pay 1 1", "log 9 a 9", "log 8 a 10", "log 7 a 19", "log 6 - 1000", "pay 3 1", "pay 3 1000000", "pay 1 12",
			"pay 1 5", "pay 1 7", "raft 1 3", "pay 1 6", "pay 1 1", "pay 2 1", "claim 6 2", "pay 2 104", "pay 2 103"},
		of(owners(own(1, "a", 11), own(2, "b", 103)), logs(gone(9, "a", 9, 1), gone(8, "a", 10, 1), gone(7, "a", 19, 1), here(6, "", 1000, 2))),
		errnos(0, 0, 4, 0, 0, 0, 0, 5, 5, 4, 0, 4, 0, 0, 4, 4, 0, 4, 0), list(1, 2, 4, 5, 6, 7, 11, 13, 14, 17, 19),
	}.isAsTold(t)
}

func TestStrikes(t *testing.T) { // P12.2, P12.3
	a9 := func(number, owner int64) api.SeasonLog { return here(number, "a", 9, owner) }
	for _, x := range []played{
		// not yet written, not done, struck, a strike
		{[]string{"strike 1", "strike 2", "strike 200", "mark 1 a", "mark 1 b", "strike 4", "strike 4", "strike 5", "strike 6", "strike 10"},
			api.Season{}, errnos(3, 3, 3, 0, 11, 0, 5, 5, 5, 3), nil},
		// what others need, what is left, and what is written once more
		{[]string{"mark 3 a", "log 9 a 29", "pay 3 5", "strike 1", "strike 2", "strike 3", "strike 2", "log 9 a 29"},
			of(owners(own(3, "a", 0)), logs(here(9, "a", 29, 3))), errnos(0, 0, 0, 13, 13, 0, 0, 0), list(1, 8)},
		// a line that was refused is not done afterwards
		{[]string{"mark 3 a", "mark 4 a", "log 9 a 8", "strike 1"},
			of(nil, logs(here(9, "a", 8, 0))), errnos(0, 11, 0, 0), list(3)},
		// a mark less: the log of two owners is that of one; then that of none
		{[]string{"mark 1 ab", "mark 2 ac", "log 9 a 9", "strike 1"},
			of(owners(own(2, "ac", 0)), logs(a9(9, 2))), errnos(0, 0, 0, 0), list(2, 3)},
		{[]string{"mark 1 ab", "log 9 a 9", "strike 1"},
			of(nil, logs(a9(9, 0))), errnos(0, 0, 0), list(2)},
		// a log that would have an owner cannot be claimed
		{[]string{"mark 1 ab", "mark 2 ac", "log 9 a 9", "claim 9 2", "strike 1", "strike 4", "strike 1"},
			of(owners(own(2, "ac", 0)), logs(a9(9, 2))), errnos(0, 0, 0, 0, 13, 0, 0), list(2, 3)},
		// the raft takes another log; without that it cannot go
		{[]string{"mark 3 a", "log 9 a 9", "log 7 a 9", "raft 3 1", "strike 2", "strike 3", "strike 1"},
			of(owners(own(3, "a", 0)), logs(gone(7, "a", 9, 3))), errnos(0, 0, 0, 0, 0, 13, 13), list(1, 3, 4)},
		// a raft less, and a payment less
		{[]string{"mark 3 a", "log 9 a 9", "log 7 a 9", "raft 3 1", "raft 3 1", "pay 3 2", "pay 3 4", "strike 4", "strike 6"},
			of(owners(own(3, "a", 4)), logs(gone(9, "a", 9, 3), a9(7, 3))), errnos(0, 0, 0, 0, 0, 0, 0, 0, 0), list(1, 2, 3, 5, 7)},
		// what is paid needs the fees of some log
		{[]string{"mark 3 a", "log 9 a 9", "log 7 a 19", "pay 3 4", "strike 3", "strike 2"},
			of(owners(own(3, "a", 4)), logs(here(7, "a", 19, 3))), errnos(0, 0, 0, 0, 13, 0), list(1, 3, 4)},
		// an owner can come once more if the line that brought it is struck, but that cannot be struck again
		{[]string{"mark 3 a", "strike 1", "mark 3 a", "strike 1", "strike 3", "mark 3 a"},
			of(owners(own(3, "a", 0)), nil), errnos(0, 0, 0, 5, 0, 0), list(6)},
	} {
		x.isAsTold(t)
	}
}

// right and wrong are lines that can be written as the first one, and such as cannot.
func right() []string {
	return []string{
		"mark 1 a", "mark 1099511627776 abcdefgh", "mark 10 stuvwxyz", "log 1 - 1", "log 1099511627776 abcdefgh 10000", "log 9 z 10", "claim 1 1", "claim 1099511627776 1099511627776",
		"raft 1 1", "raft 1099511627776 100", "pay 1 1", "pay 1099511627776 1000000", "strike 1", "strike 200",
	}
}

func wrong() []string {
	l := []string{"", " ", "mark", "Mark 1 a", "marks 1 a", "mar 1 a", "owner 1 a", "1 mark 1 a", "mark 1 a\n", "mark 1 a\r", "mark\t1 a", "log 1 a - 1", "strike -", "claim 1 a", "pay a 1", "log - a 1", "log 1 1 1"}
	number := func(form, most string) {
		for _, n := range []string{"", "0", "01", "-1", "+1", "1.", "a", "-", "1a", "1_0", "0x1", "١", "9223372036854775808", "18446744073709551617", "99999999999999999999999", most} {
			l = append(l, strings.Replace(form, "?", n, 1))
		}
	}
	for _, form := range []string{"mark ? a", "log ? a 1", "claim ? 1", "claim 1 ?", "raft ? 1", "pay ? 1"} {
		number(form, "1099511627777")
	}
	number("log 1 a ?", "10001")
	number("raft 1 ?", "101")
	number("pay 1 ?", "1000001")
	number("strike ?", "201")
	for _, letters := range []string{"", "ba", "aa", "abcdefghi", "A", "aB", "a1", "a-", "-a", "--", "ä", "{", "`", "\xff"} {
		l = append(l, "mark 1 "+letters, "log 1 "+letters+" 1")
	}
	for _, line := range right() {
		word, rest, _ := strings.Cut(line, " ")
		before, last, _ := strings.Cut(rest, " ")
		l = append(l, line+" ", " "+line, line+" 1", line+" a", word, word+" ", word+"  "+rest, word+" "+before+"  "+last, word+" "+before+"\n"+last, strings.ToUpper(line))
	}
	return append(l, "mark 1 -")
}

func TestFormOfLines(t *testing.T) { // P12.2, P12.3, R2, R7
	a := answers{t}
	for _, line := range right() {
		a.ofText(text(line), api.OK)
		a.ofText(text("mark 1 a", line, "mark 1 a"), api.OK)
		a.ofText("1 "+line, api.ErrForm)
		a.ofText("1 "+line+"\r\n", api.ErrForm)
		a.ofText(line+"\n", api.ErrForm)
		for _, number := range []string{"0", "2", "01", "-1", "+1", "", " 1", "a", "10"} {
			a.ofText(number+" "+line+"\n", api.ErrForm)
		}
		for _, behind := range []string{"\n", "x", " ", "2\n", "2 \n", "1 " + line + "\n", "3 " + line + "\n", "02 " + line + "\n", "2 " + line} {
			a.ofText(text(line)+behind, api.ErrForm)
		}
	}
	for _, line := range wrong() {
		a.ofText(text(line), api.ErrForm)
		a.ofText(text("mark 1 a", line, "mark 1 a"), api.ErrForm)
	}
	for _, book := range []string{"", "1 mark 1 a\n2 mark 2 b\n"} {
		a.ofText(book, api.OK)
		a.ofText(book+"\n", api.ErrForm)
		a.ofText("\n"+book, api.ErrForm)
	}
}

// ofBytes returns a text of more than 200 lines of the right form, with so many bytes.
func ofBytes(bytes int) string {
	var lines []string
	for len(text(lines...)) < bytes-60 {
		lines = append(lines, "claim 1 1")
	}
	// Both last lines are as long as they must be.
	rest := bytes - len(text(append(lines, "claim 1 1", "claim 1 1")...))
	number := func(digits int) string { return "1" + strings.Repeat("0", digits) }
	one := min(rest, 12)
	return text(append(lines, "claim 1 "+number(one), "claim "+number(min(rest-one, 12))+" "+number(max(rest-one-12, 0)))...)
}

func TestTooLongAndTooManyLines(t *testing.T) { // P12.2, P12.3, R1
	a := answers{t}
	two := slices.Repeat([]string{"mark 3 a"}, 200)
	a.ofText(text(two...), api.OK)
	_, errors, _ := season.Run(text(two...))
	if len(errors) != 200 || errors[199] != api.ErrHave {
		t.Error(errors)
	}
	more := append(two, "mark 3 a")
	a.ofText(text(more...), api.ErrMany)
	a.ofText(text(more...)+"x", api.ErrForm)
	a.ofText(text(more...)+"201 mark 3 a\n", api.ErrForm)
	a.ofText(text(more...)+"202 mark 3\n", api.ErrForm)
	a.ofText(text(append(more, "strike 200")...), api.ErrMany)
	a.ofText(text(append(more, "strike 201")...), api.ErrForm)
	for bytes, want := range map[int]api.Errno{7990: api.ErrMany, 7999: api.ErrMany, 8000: api.ErrMany, 8001: api.ErrLong, 8002: api.ErrLong} {
		book := ofBytes(bytes)
		if len(book) != bytes {
			t.Fatal(len(book), bytes)
		}
		a.ofText(book, want)
		a.ofText("x"+book[1:], map[api.Errno]api.Errno{api.ErrMany: api.ErrForm, api.ErrLong: api.ErrLong}[want])
	}
	a.ofText(strings.Repeat("\n", 8000), api.ErrForm)
	a.ofText(strings.Repeat("\n", 8001), api.ErrLong)
	a.ofText(strings.Repeat("ä", 4001), api.ErrLong)
	// The longest lines, as many as a text has, are not too long.
	longest := slices.Repeat([]string{"claim 1099511627776 1099511627776"}, 200)
	a.ofText(text(longest...), api.OK)
}

func TestFile(t *testing.T) { // P12.4
	for file, s := range map[string]api.Season{
		"":                                {},
		"owner 3 a 2\nlog 9 a 8 3 gone\n": of(owners(own(3, "a", 2)), logs(gone(9, "a", 8, 3))),
		"log 9 - 8 0 here\n":              of(nil, logs(here(9, "", 8, 0))),
		"owner 1 abcdefgh 0\nowner 1099511627776 z 0\nlog 1099511627776 abcdefgh 10000 0 here\nlog 1 - 1 1099511627776 gone\n": of(
			owners(own(1, "abcdefgh", 0), own(1<<40, "z", 0)), logs(here(1<<40, "abcdefgh", 10_000, 0), gone(1, "", 1, 1<<40))),
		"owner 2 ab 5\nowner 6 bcz 0\nowner 9 x 4\nlog 30 a 25 2 here\nlog 20 - 10 6 gone\nlog 10 q 7 0 here\nlog 40 - 9999 0 here\nlog 25 x 19 9 gone\nlog 50 x 1 9 here\n": plainSeason(),
	} {
		if got, e := season.File(s); got != file || e != api.OK {
			t.Errorf("File of %v is\n%s, %d, want\n%s", s, got, e, file)
		}
		if got, e := season.Load(file); !same(got, s) || e != api.OK {
			t.Errorf("Load of\n%sis %v, %d, want %v", file, got, e, s)
		}
	}
	file, e := season.File(full())
	s, ofLoad := season.Load(file)
	if !same(s, full()) || e != api.OK || ofLoad != api.OK {
		t.Error(s, e, ofLoad)
	}
}

// fileOf returns what a file of a season would be that need not be valid.
func fileOf(s api.Season) string {
	var file strings.Builder
	for _, x := range s.Owners {
		fmt.Fprintf(&file, "owner %d %s %d\n", x.Number, x.Mark, x.Paid)
	}
	for _, l := range s.Logs {
		seen, state := l.Seen, "here"
		if seen == "" {
			seen = "-"
		}
		if l.Gone {
			state = "gone"
		}
		fmt.Fprintf(&file, "log %d %s %d %d %s\n", l.Number, seen, l.Feet, l.Owner, state)
	}
	return file.String()
}

func TestLoadOfWrongSeasons(t *testing.T) { // P12.4
	a := answers{t}
	for file, want := range map[string]api.Errno{
		// of the right form
		"owner 0 a 0\n":                        api.ErrRange,
		"owner 1099511627777 a 0\n":            api.ErrRange,
		"owner 999999999999999999 a 0\n":       api.ErrRange,
		"owner 1 a 999999999999999999\n":       api.ErrSum,
		"owner 1 a 1\n":                        api.ErrSum,
		"owner 1 ba 0\n":                       api.ErrForm,
		"owner 1 abcdefghi 0\n":                api.ErrForm,
		"owner 1 a 0\nowner 1 b 0\n":           api.ErrHave,
		"owner 1 a 0\nowner 2 a 0\n":           api.ErrHave,
		"owner 2 a 0\nowner 1 b 0\n":           api.ErrHave,
		"log 0 a 1 0 here\n":                   api.ErrRange,
		"log 1 a 0 0 here\n":                   api.ErrRange,
		"log 1 a 10001 0 here\n":               api.ErrRange,
		"log 1 a 1 1099511627777 here\n":       api.ErrRange,
		"log 1 a 1 0 gone\n":                   api.ErrRule,
		"log 1 a 1 2 here\n":                   api.ErrNone,
		"log 1 ba 1 0 here\n":                  api.ErrForm,
		"log 1 a 1 0 here\nlog 1 a 1 0 here\n": api.ErrHave,
		"owner 1 a 0\nlog 1 b 1 1 here\n":      api.ErrRule,
		"owner 3 a 4\nlog 9 a 8 3 gone\n":      api.ErrSum,
		"owner 3 a 3\nlog 9 a 8 3 gone\n":      api.OK,
		// too many, and among them words that are no marks, or no words
		strings.Repeat("owner 1 ba 0\n", 20):                               api.ErrForm,
		strings.Repeat("owner 1 ba 0\n", 21):                               api.ErrMany,
		strings.Repeat("owner 1 "+strings.Repeat("z", 99)+" 0\n", 21):      api.ErrMany,
		strings.Repeat("owner 1 a 0\n", 20) + "owner 1 - 0\n":              api.ErrForm,
		strings.Repeat("owner 1 a 0\n", 20) + "owner 1 A 0\n":              api.ErrForm,
		strings.Repeat("log 1 ba 0 999999999999999999 gone\n", 100):        api.ErrForm,
		strings.Repeat("log 1 ba 0 999999999999999999 gone\n", 101):        api.ErrMany,
		strings.Repeat("log 1 a 1 0 here\n", 100) + "log 1 a 1 0 left\n":   api.ErrForm,
		strings.Repeat("log 1 a 1 0 here\n", 100) + "log 1 a 1 0 here":     api.ErrForm,
		strings.Repeat("log 1 a 1 0 here\n", 100) + "owner 1 a 0\n":        api.ErrForm,
		strings.Repeat("log 1 a 1 0 here\n", 100) + "log 01 a 1 0 here\n":  api.ErrForm,
		strings.Repeat("owner 1 a 0\n", 21) + strings.Repeat("\n", 17_000): api.ErrLong,
	} {
		a.ofFile(file, want)
	}
	for _, x := range faults() {
		s := changed(x.change)
		file := fileOf(s)
		want := x.e
		// What is below 0, or has more than 18 digits, or is no word, cannot be written.
		if strings.Contains(file, " -1") || strings.Contains(file, "-9223372036854775808") || strings.Contains(file, "9223372036854775807") {
			want = api.ErrForm
		}
		if x.e == api.ErrMany {
			// Empty marks are no words.
			want = api.ErrForm
			file = strings.ReplaceAll(file, "owner 0  0", "owner 0 a 0")
			if strings.Contains(file, "owner 0 a 0") || len(s.Logs) > 100 {
				want = api.ErrMany
			}
		}
		if s.Logs[3].Seen == "-" {
			// That is how nothing seen is written.
			want = api.OK
		}
		a.ofFile(file, want)
	}
}

func TestFormOfFiles(t *testing.T) { // P12.4, R2, R7
	a := answers{t}
	var l []string
	place := func(form string, words ...string) {
		for _, word := range words {
			l = append(l, strings.Replace(form, "?", word, 1))
		}
	}
	for _, form := range []string{"owner ? a 0", "owner 1 a ?", "log ? a 1 0 here", "log 1 a ? 0 here", "log 1 a 1 ? here"} {
		place(form, "", "01", "00", "-0", "-1", "+1", "a", "-", "1.", "1a", "1_0", "١", "1000000000000000000", "9223372036854775808", "99999999999999999999999")
	}
	for _, form := range []string{"owner 1 ? 0", "log 1 ? 1 0 here"} {
		place(form, "", "1", "A", "aB", "a1", "-a", "a-", "--", "ä", "a{", "`a", "\xff")
	}
	place("owner 1 ? 0", "-")
	place("log 1 a 1 0 ?", "", "left", "Here", "GONE", "her", "heres", "gone ", "0", "-", "true")
	place("? 1 a 0", "", "own", "owners", "Owner", "log", "mark", "1", "1 owner")
	place("? 1 a 1 0 here", "", "lo", "logs", "Log", "owner", "1", "1 log")
	l = append(l, "", " ", "owner", "log", "owner 1 a", "log 1 a 1 0", "owner 1 a 0 here", "log 1 a 1 here", "owner 1 a 0 0", "log 1 a 1 0 here 0", "owner 1 a 0 ", " owner 1 a 0", "owner  1 a 0", "owner 1  a 0", "owner 1 a  0",
		"log 1 a 1 0 here ", " log 1 a 1 0 here", "log 1 a 1  0 here", "owner 1 a 0\r", "owner 1 a 0\n", "log 1 a\n1 0 here", "log 1 a 1 0 here\n")
	for _, line := range l {
		a.ofFile(line+"\n", api.ErrForm)
		a.ofFile("owner 1 a 0\n"+line+"\nlog 1 a 1 0 here\n", api.ErrForm)
	}
	for _, file := range []string{"owner 1 a 0", "log 1 a 1 0 here", "owner 1 a 0\nlog 1 a 1 0 here", "log 1 a 1 0 here\nowner 1 a 0\n", "owner 1 a 0\nlog 1 a 1 0 here\nowner 2 b 0\n", "\nowner 1 a 0\n", "\n", "x"} {
		a.ofFile(file, api.ErrForm)
	}
	for bytes, want := range map[int]api.Errno{15_999: api.ErrForm, 16_000: api.ErrForm, 16_001: api.ErrLong, 100_000: api.ErrLong} {
		a.ofFile(strings.Repeat("x", bytes), want)
		a.ofFile(strings.Repeat("\n", bytes), want)
		many := strings.Repeat("owner 1 a 0\n", bytes/12-1) + "owner 1 a 1" + strings.Repeat("0", bytes%12) + "\n"
		a.ofFile(many, map[api.Errno]api.Errno{api.ErrForm: api.ErrMany, api.ErrLong: api.ErrLong}[want])
	}
}

func TestWorn(t *testing.T) { // P12.5, R1, R2
	for seen, want := range map[string][]int64{
		"": longs(2, 6, 9), "a": longs(2), "b": longs(2, 6), "ab": longs(2), "abc": nil, "bz": longs(6), "bcz": longs(6), "z": longs(6), "x": longs(9), "xz": nil, "q": nil, "abcdefgh": nil,
	} {
		if l, e := season.Worn(plainSeason(), seen); !slices.Equal(l, want) || e != api.OK {
			t.Errorf("Worn %q: %v, %d, want %v", seen, l, e, want)
		}
	}
	a := answers{t}
	for _, seen := range []string{"-", "ba", "aa", "abcdefghi", "A", " ", "a b", "a\n", "{", "`", "1", "ä", "\xff", "\x00"} {
		a.ofWorn(plainSeason(), seen, api.ErrForm)
		a.ofWorn(api.Season{}, seen, api.ErrForm)
	}
	if l, e := season.Worn(api.Season{}, "a"); len(l) != 0 || e != api.OK {
		t.Error(l, e)
	}
	l, e := season.Worn(full(), "uz")
	if len(l) != 20 || l[0] != 1<<40-19 || l[19] != 1<<40 || e != api.OK {
		t.Error(l, e)
	}
}

func TestOwedAndHere(t *testing.T) { // P12.6, R2, R5
	type owner struct {
		owed int64
		here []int64
	}
	for number, want := range map[int64]owner{2: {0, longs(30)}, 6: {4, nil}, 9: {3, longs(50)}} {
		owed, e := season.Owed(plainSeason(), number)
		l, ofHere := season.Here(plainSeason(), number)
		if owed != want.owed || !slices.Equal(l, want.here) || e != api.OK || ofHere != api.OK {
			t.Errorf("%d: %d, %v, %d, %d, want %v", number, owed, l, e, ofHere, want)
		}
	}
	a := answers{t}
	for _, number := range longs(0, -2, 1, 3, 10, 30, 1<<40, 1<<40+1, math.MinInt64, math.MaxInt64) {
		a.ofOwner(plainSeason(), number, api.ErrNone)
		a.ofOwner(api.Season{}, number, api.ErrNone)
	}
	s := full()
	s.Owners[3].Paid = 0
	for i := range s.Logs {
		s.Logs[i].Gone = i%40 != 23
	}
	owed, e := season.Owed(s, s.Owners[3].Number)
	l, ofHere := season.Here(s, s.Owners[3].Number)
	if owed != 5*1003 || !slices.Equal(l, longs(1<<40-23, 1<<40-63)) || e != api.OK || ofHere != api.OK {
		t.Error(owed, l, e, ofHere)
	}
}
