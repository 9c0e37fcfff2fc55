package mark_test

import (
	"math"
	"slices"
	"testing"

	"peavey/api"
	"peavey/mark"
)

func list(x ...int) []int { return x }

func office(strokes, loss int, marks ...int) api.MarkOffice {
	return api.MarkOffice{Strokes: strokes, Loss: loss, Marks: marks}
}

// officeO and officeP are O and P of the chapter's examples.
func officeO() api.MarkOffice { return office(5, 1, 7, 25, 14) }
func officeP() api.MarkOffice { return office(5, 1, 7, 25) }

// tooMany is one mark more than there can be, all of them not valid.
func tooMany() []int { return make([]int, api.MaxMarkOwners+1) }

func TestCheckOffice(t *testing.T) { // P1.1
	full := slices.Repeat(list(1023), api.MaxMarkOwners)
	for i, x := range []struct {
		o api.MarkOffice
		e api.Errno
	}{
		{officeO(), api.OK},
		{office(1, 0), api.OK},
		{office(1, 1, 1), api.OK},
		{office(4, 0, 6, 6), api.OK},
		{office(4, 4, 1, 15), api.OK},
		{office(api.MaxMarkStrokes, 3, full...), api.OK},
		{office(0, 0), api.ErrRange},
		{office(-1, 0), api.ErrRange},
		{office(api.MaxMarkStrokes+1, 0), api.ErrRange},
		{office(math.MaxInt, math.MaxInt), api.ErrRange},
		{office(math.MinInt, math.MinInt), api.ErrRange},
		{office(4, -1), api.ErrRange},
		{office(4, 5), api.ErrRange},
		{office(api.MaxMarkStrokes, 3, append(full, 1)...), api.ErrMany},
		{office(4, 1, 0), api.ErrArg},
		{office(4, 1, -1), api.ErrArg},
		{office(4, 1, 16), api.ErrArg},
		{office(4, 1, 15, 3, math.MaxInt), api.ErrArg},
		{office(4, 1, 15, 3, math.MinInt), api.ErrArg},
		// the order of errors
		{office(0, 0, tooMany()...), api.ErrRange},
		{office(4, 5, tooMany()...), api.ErrRange},
		{office(4, 5, 0), api.ErrRange},
		{office(4, 1, tooMany()...), api.ErrMany},
	} {
		if e := mark.CheckOffice(x.o); e != x.e {
			t.Errorf("%d: CheckOffice(%v) = %d, want %d", i, x.o, e, x.e)
		}
	}
}

// Every function returns the error of CheckOffice first, with zero values, whatever else is wrong.
func TestErrorOfOfficeFirst(t *testing.T) {
	for _, o := range []api.MarkOffice{office(0, 0), office(11, 0), office(3, 4), office(3, 1, tooMany()...), office(3, 1, 8)} {
		want := mark.CheckOffice(o)
		check := func(name string, e api.Errno, zero bool) {
			if e != want || !zero {
				t.Errorf("%s of %v: error %d, want %d; all zero: %v", name, o, e, want, zero)
			}
		}
		owners, e := mark.Owners(o, -1)
		check("Owners", e, len(owners) == 0)
		worn, e := mark.Clash(o, -1, -1)
		check("Clash", e, worn == 0)
		one, two, e := mark.Apart(o)
		check("Apart", e, one == 0 && two == 0)
		margin, e := mark.Margin(o)
		check("Margin", e, margin == 0)
		told, e := mark.Told(o, -1)
		check("Told", e, told == 0)
		keep, e := mark.Keep(o, -1)
		check("Keep", e, keep == 0)
		free, e := mark.Free(o)
		check("Free", e, len(free) == 0)
		check("CheckFamily", mark.CheckFamily(o, tooMany(), list(-1)), true)
		family, e := mark.Family(o, tooMany())
		check("Family", e, len(family) == 0)
	}
}

func TestOwners(t *testing.T) { // P1.2
	for i, x := range []struct {
		o    api.MarkOffice
		worn int
		want []int
		e    api.Errno
	}{
		{officeO(), 6, list(0, 2), api.OK}, // the examples of the chapter
		{officeO(), 7, list(0), api.OK},
		{officeO(), 24, list(1), api.OK},
		{officeO(), 0, nil, api.OK},
		{officeO(), 10, list(2), api.OK}, // the first example of DOC.md
		{officeO(), 31, nil, api.OK},
		{office(5, 1), 7, nil, api.OK},                      // no marks
		{office(4, 1, 3, 3, 12), 1, list(0, 1), api.OK},     // equal marks
		{office(4, 0, 3, 1, 7), 3, list(0), api.OK},         // Loss 0: nothing is lost
		{office(4, 4, 3, 8, 15), 0, list(0, 1, 2), api.OK},  // Loss equal to Strokes: all of it is
		{office(4, 4, 3, 8, 15), 8, list(1, 2), api.OK},     // no stroke is gained
		{office(4, 2, 15), 3, list(0), api.OK},              // just as many as can be
		{office(4, 2, 15), 1, nil, api.OK},                  // one too many
		{office(10, 1, 1023, 511), 511, list(0, 1), api.OK}, // the last stroke of all
		{officeO(), 32, nil, api.ErrRange},
		{officeO(), -1, nil, api.ErrRange},
		{officeO(), math.MaxInt, nil, api.ErrRange},
		{officeO(), math.MinInt, nil, api.ErrRange},
		{office(5, 1), 32, nil, api.ErrRange},
	} {
		if got, e := mark.Owners(x.o, x.worn); !slices.Equal(got, x.want) || e != x.e {
			t.Errorf("%d: Owners(%v, %d) = %v, %d, want %v, %d", i, x.o, x.worn, got, e, x.want, x.e)
		}
	}
}

func TestClash(t *testing.T) { // P1.3
	for i, x := range []struct {
		o        api.MarkOffice
		one, two int
		want     int
		e        api.Errno
	}{
		{officeO(), 0, 2, 6, api.OK}, // the examples of the chapter
		{officeO(), 0, 1, 0, api.ErrNone},
		{officeO(), 2, 0, 6, api.OK}, // the order does not matter
		{officeO(), 1, 0, 0, api.ErrNone},
		{office(4, 0, 6, 6), 0, 1, 6, api.OK},        // equal marks
		{office(4, 0, 6, 7), 0, 1, 0, api.ErrNone},   // Loss 0
		{office(4, 4, 3, 12), 1, 0, 0, api.OK},       // Loss equal to Strokes: the worn mark without strokes
		{office(4, 2, 1, 7), 0, 1, 1, api.OK},        // only one of them loses strokes
		{office(4, 1, 1, 7), 0, 1, 0, api.ErrNone},   // it would have to lose too many
		{office(6, 2, 15, 60), 0, 1, 12, api.OK},     // both lose as many as they can
		{office(6, 2, 15, 56), 0, 1, 0, api.ErrNone}, // one of them too many
		{officeO(), 1, 3, 0, api.ErrArg},
		{officeO(), 3, 1, 0, api.ErrArg},
		{officeO(), -1, 1, 0, api.ErrArg},
		{officeO(), math.MinInt, math.MaxInt, 0, api.ErrArg},
		{office(5, 1), 0, 1, 0, api.ErrArg},
		{officeO(), 3, 3, 0, api.ErrArg}, // the order of errors
		{officeO(), -1, -1, 0, api.ErrArg},
		{officeO(), 1, 1, 0, api.ErrRule},
	} {
		if got, e := mark.Clash(x.o, x.one, x.two); got != x.want || e != x.e {
			t.Errorf("%d: Clash(%v, %d, %d) = %d, %d, want %d, %d", i, x.o, x.one, x.two, got, e, x.want, x.e)
		}
	}
}

func TestApart(t *testing.T) { // P1.3
	for i, x := range []struct {
		o        api.MarkOffice
		one, two int
		e        api.Errno
	}{
		{officeO(), 0, 2, api.ErrMark}, // the examples of the chapter
		{officeP(), 0, 0, api.OK},
		{office(5, 5), 0, 0, api.OK},                    // no marks
		{office(5, 5, 9), 0, 0, api.OK},                 // a single one
		{office(5, 0, 9, 3, 9), 0, 2, api.ErrMark},      // equal marks
		{office(5, 0, 9, 3, 11), 0, 0, api.OK},          // Loss 0
		{office(5, 5, 9, 3, 11), 0, 1, api.ErrMark},     // Loss equal to Strokes
		{office(6, 1, 56, 7, 3, 24), 0, 3, api.ErrMark}, // 0 3 comes before 1 2
		{office(6, 1, 48, 7, 3, 6), 1, 2, api.ErrMark},  // 1 2 comes before 1 3 and 2 3
	} {
		if one, two, e := mark.Apart(x.o); one != x.one || two != x.two || e != x.e {
			t.Errorf("%d: Apart(%v) = %d, %d, %d, want %d, %d, %d", i, x.o, one, two, e, x.one, x.two, x.e)
		}
	}
}

func TestMargin(t *testing.T) { // P1.4
	for i, x := range []struct {
		o    api.MarkOffice
		want int
	}{
		{officeO(), 0}, // the examples of the chapter
		{officeP(), 1},
		{office(5, 1), 5},                   // no marks
		{office(5, 1, 9), 5},                // a single one
		{office(5, 1, 9, 3, 9), -1},         // equal marks
		{office(5, 0, 9, 3, 11), 0},         // the Loss of the office does not matter
		{office(5, 5, 9, 3, 11), 0},         //
		{office(6, 0, 7, 56), 2},            // up to the Loss with which the worn mark without strokes can be both
		{office(10, 0, 1023, 1), 8},         // the greatest margin of two marks
		{office(10, 0, 1023, 1, 1023), -1},  // equal marks after others
		{office(10, 0, 31, 992, 1), 3},      // the closest pair decides
		{office(10, 0, 31, 992, 1, 512), 0}, //
	} {
		if got, e := mark.Margin(x.o); got != x.want || e != api.OK {
			t.Errorf("%d: Margin(%v) = %d, %d, want %d", i, x.o, got, e, x.want)
		}
	}
}

func TestTold(t *testing.T) { // P1.5
	for i, x := range []struct {
		o     api.MarkOffice
		owner int
		want  int
		e     api.Errno
	}{
		{officeO(), 0, 0, api.OK}, // the examples of the chapter
		{officeO(), 1, 1, api.OK},
		{officeO(), 2, 0, api.OK},
		{office(3, 3, 5), 0, 3, api.OK},          // no other owner
		{office(3, 0, 5), 0, 0, api.OK},          //
		{office(3, 0, 5, 5), 1, -1, api.OK},      // equal marks
		{office(3, 0, 5, 7), 0, 0, api.OK},       // Loss 0: the other one loses nothing
		{office(3, 1, 5, 7), 0, -1, api.OK},      // an owner without strokes that tell it
		{office(4, 1, 1, 15), 0, 1, api.OK},      // the other one cannot lose as many
		{office(4, 2, 7, 1), 0, 1, api.OK},       // it is told until the last one but one is lost
		{office(4, 4, 3, 12), 0, 1, api.OK},      // Loss equal to Strokes
		{office(4, 4, 3, 12, 2), 0, 0, api.OK},   //
		{office(4, 2, 3, 12, 15), 1, -1, api.OK}, //
		{officeO(), 3, 0, api.ErrArg},
		{officeO(), -1, 0, api.ErrArg},
		{officeO(), math.MaxInt, 0, api.ErrArg},
		{office(5, 1), 0, 0, api.ErrArg},
	} {
		if got, e := mark.Told(x.o, x.owner); got != x.want || e != x.e {
			t.Errorf("%d: Told(%v, %d) = %d, %d, want %d, %d", i, x.o, x.owner, got, e, x.want, x.e)
		}
	}
}

func TestKeep(t *testing.T) { // P1.6
	for i, x := range []struct {
		o     api.MarkOffice
		owner int
		want  int
		e     api.Errno
	}{
		{officeO(), 0, 3, api.OK}, // the examples of the chapter
		{officeO(), 1, 16, api.OK},
		{officeO(), 2, 10, api.OK},
		{office(5, 1, 9), 0, 0, api.OK},                  // no other owner
		{office(5, 0, 9, 9), 0, 0, api.ErrMark},          // equal marks
		{office(5, 0, 9, 11), 0, 0, api.ErrMark},         // an owner without strokes that tell it
		{office(5, 0, 9, 11), 1, 2, api.OK},              //
		{office(5, 0, 31, 1, 1), 0, 2, api.OK},           // of several strokes the first one
		{office(4, 1, 15, 3, 5, 9), 0, 6, api.OK},        // 1 2 comes before 1 3 and 2 3
		{office(4, 1, 15, 10, 6, 3), 0, 5, api.OK},       // 0 2 comes before 0 3
		{office(4, 1, 15, 14, 7), 0, 9, api.OK},          // both ends
		{office(4, 0, 15, 7, 11, 13, 14), 0, 15, api.OK}, // all strokes
		{office(5, 0, 31, 15, 14, 30), 0, 17, api.OK},    // fewer ones come first
		{officeO(), 3, 0, api.ErrArg},
		{officeO(), -1, 0, api.ErrArg},
		{officeO(), math.MinInt, 0, api.ErrArg},
		{office(5, 1), 0, 0, api.ErrArg},
	} {
		if got, e := mark.Keep(x.o, x.owner); got != x.want || e != x.e {
			t.Errorf("%d: Keep(%v, %d) = %d, %d, want %d, %d", i, x.o, x.owner, got, e, x.want, x.e)
		}
	}
}

func TestFree(t *testing.T) { // P1.7
	for i, x := range []struct {
		o    api.MarkOffice
		want []int
	}{
		{officeP(), list(1, 2, 4, 8, 10, 12, 16, 18, 20, 30, 31)}, // the example of the chapter
		{office(2, 0), list(1, 2, 3)},                             // no marks
		{office(2, 2), list(1, 2, 3)},                             //
		{office(2, 0, 3, 3), list(1, 2)},                          // equal marks; Loss 0
		{office(3, 3, 1), nil},                                    // Loss equal to Strokes
		{office(3, 2, 7), nil},                                    //
		{office(3, 1, 1), list(6, 7)},                             //
		{office(1, 0, 1), nil},
	} {
		if got, e := mark.Free(x.o); !slices.Equal(got, x.want) || e != api.OK {
			t.Errorf("%d: Free(%v) = %v, %d, want %v", i, x.o, got, e, x.want)
		}
	}
}

func TestCheckFamily(t *testing.T) { // P1.8
	asked := list(1, 2, 30, 12)
	for i, x := range []struct {
		o             api.MarkOffice
		marks, family []int
		e             api.Errno
	}{
		{officeP(), asked, list(0, 1), api.ErrMark}, // the examples of the chapter
		{officeP(), asked, list(1, 2), api.OK},
		{officeP(), asked, list(0, 2, 3), api.OK},
		{officeP(), asked, nil, api.OK},
		{officeP(), nil, list(), api.OK},
		{officeP(), list(7), list(0), api.ErrMark},           // a mark that is registered
		{officeP(), list(3), list(0), api.ErrMark},           // a mark that clashes with such a one
		{officeP(), list(7, 1), list(1), api.OK},             // the others do not matter
		{office(4, 0), list(5, 5), list(0, 1), api.ErrMark},  // equal marks
		{office(4, 0), list(5, 4), list(0, 1), api.OK},       // Loss 0
		{office(4, 4), list(5, 10), list(0, 1), api.ErrMark}, // Loss equal to Strokes
		{officeP(), asked, list(0, 1, 2), api.ErrMark},
		{officeP(), asked, list(1, 0), api.ErrRule},
		{officeP(), asked, list(2, 2), api.ErrRule},
		{officeP(), asked, list(4), api.ErrRule},
		{officeP(), asked, list(-1), api.ErrRule},
		{officeP(), asked, list(0, math.MaxInt), api.ErrRule},
		{officeP(), nil, list(0), api.ErrRule},
		{officeP(), list(0), nil, api.ErrRange},
		{officeP(), list(1, 32), nil, api.ErrRange},
		{officeP(), list(math.MinInt), nil, api.ErrRange},
		{officeP(), tooMany(), nil, api.ErrMany},
		// the order of errors
		{officeP(), tooMany(), list(9, 9), api.ErrMany},
		{officeP(), list(1, 0), list(9, 9), api.ErrRange},
		{officeP(), list(7, 1), list(0, 0), api.ErrRule},
		{officeP(), list(7, 1), list(0, 2), api.ErrRule},
	} {
		if e := mark.CheckFamily(x.o, x.marks, x.family); e != x.e {
			t.Errorf("%d: CheckFamily(%v, %v, %v) = %d, want %d", i, x.o, x.marks, x.family, e, x.e)
		}
	}
}

func TestFamily(t *testing.T) { // P1.8
	singles := list(1, 2, 4, 8, 16, 32, 64, 128, 256, 512)
	for i, x := range []struct {
		o           api.MarkOffice
		marks, want []int
		e           api.Errno
	}{
		{officeP(), list(1, 2, 30, 12), list(0, 2, 3), api.OK}, // the example of the chapter
		{officeP(), nil, nil, api.OK},
		{officeP(), list(7, 25, 3), nil, api.OK},                  // none is free
		{officeP(), list(7, 25, 6, 12), list(3), api.OK},          // only one is
		{office(4, 0), list(3, 3, 1, 1), list(0, 2), api.OK},      // equal marks; Loss 0
		{office(4, 4), list(3, 1, 2), list(0), api.OK},            // Loss equal to Strokes
		{office(4, 1), list(1, 3, 12, 15), list(0, 2, 3), api.OK}, // the first one of several
		{office(4, 1), list(3, 1, 2, 12, 15, 3), list(0, 3, 4), api.OK},
		{office(6, 1), list(7, 3, 5, 56, 24), list(0, 3), api.OK}, //
		{office(4, 1), list(6, 3, 12), list(1, 2), api.OK},        // more marks without the first one
		{office(10, 0), append(singles, 3, 5), list(0, 1, 2, 3, 4, 5, 6, 7, 8, 9, 10, 11), api.OK},
		{office(10, 1), append(singles, 3, 5), list(1, 11), api.OK},
		{officeP(), list(32), nil, api.ErrRange},
		{officeP(), list(1, 0), nil, api.ErrRange},
		{officeP(), list(-5), nil, api.ErrRange},
		{officeP(), tooMany(), nil, api.ErrMany},
	} {
		got, e := mark.Family(x.o, x.marks)
		if !slices.Equal(got, x.want) || e != x.e {
			t.Errorf("%d: Family(%v, %v) = %v, %d, want %v, %d", i, x.o, x.marks, got, e, x.want, x.e)
		}
	}
}
