package check

import (
	"iter"

	"peavey/api"
)

// bench is where some logs of a boom are scaled once more, with the test of the scaler; where there is none, only All of it is known.
type bench struct {
	api.CheckTest
	all row
	// The choices of the logs behind one that is looked at.
	behind row
	// The booms of both scalers of the test.
	good, bad boom
}

// newBench returns the bench of a test of which All is valid.
func newBench(t api.CheckTest) *bench {
	b := &bench{CheckTest: t}
	b.all.fill(t.All)
	return b
}

// open returns the bench of a boom, or ErrRange if it has too few or too many logs, or less than one of some sizes.
func open(all int, sizes ...int) (*bench, api.Errno) {
	if !within(1, api.MaxCheckLogs, all) || !within(0, all, sizes...) {
		return nil, api.ErrRange
	}
	return newBench(api.CheckTest{All: all}), api.OK
}

// openSample returns the bench of a boom, or ErrRange if it has no such sample, or fewer logs than are wrong.
func openSample(all, size, found int, wrong ...int) (*bench, api.Errno) {
	b, e := open(all, size)
	if e != api.OK || !within(0, size, found) || !within(0, all, wrong...) {
		return nil, api.ErrRange
	}
	return b, api.OK
}

// openTest returns the bench of a test, or the error of the test.
func openTest(t api.CheckTest) (*bench, api.Errno) {
	if e := CheckTest(t); e != api.OK {
		return nil, e
	}
	b := newBench(t)
	b.good, b.bad = b.boom(b.Good), b.boom(b.Bad)
	return b, api.OK
}

// openPlan returns the bench of a test, or the error of the test, or ErrRange if the plan is none of it.
func openPlan(t api.CheckTest, p api.CheckPlan) (*bench, api.Errno) {
	b, e := openTest(t)
	switch {
	case e != api.OK:
		return nil, e
	case !within(0, b.All, p.Sample), !within(0, p.Sample, p.Most):
		return nil, api.ErrRange
	}
	return b, api.OK
}

// booms yields the boom with each number of wrong logs, from 0 on.
func (b *bench) booms() iter.Seq[boom] {
	return func(yield func(boom) bool) {
		m := boom{ofWrong: none(), ofRight: b.all}
		for yield(m) && m.ofRight != none() {
			m = m.spoiled()
		}
	}
}

// boom returns the boom with a number of wrong logs.
func (b *bench) boom(wrong int) boom {
	return first(b.booms(), func(m boom) bool { return m.wrong == wrong })
}

// isRare reports whether the chance of so many samples of a size is at most a risk. No product is beyond 2^57, as a risk has a Den of at most 1,000.
func (b *bench) isRare(samples int64, size int, risk api.Ratio) bool {
	return samples*risk.Den <= risk.Num*b.all[size]
}
