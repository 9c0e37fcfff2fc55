package gap

import (
	"iter"
	"slices"

	"peavey/api"
)

// line is the logs of a row that is right: when each one is wanted.
type line struct {
	wanted []int64
}

// open returns the line of a row, or its error, or ErrArg if a number of pockets is none.
func open(row []int64, many ...int) (line, api.Errno) {
	if e := CheckRow(row); e != api.OK {
		return line{}, e
	}
	if !within(0, api.MaxGapPockets, many...) {
		return line{}, api.ErrArg
	}
	return line{row}, api.OK
}

// logs yields all logs, in the order in which they come.
func (l line) logs() iter.Seq[int] {
	return func(yield func(int) bool) {
		for log := range l.wanted {
			if !yield(log) {
				return
			}
		}
	}
}

// behind yields the logs that can come behind a log in its pocket.
func (l line) behind(log int) iter.Seq[int] {
	return only(l.logs(), func(later int) bool { return later > log && l.wanted[later] >= l.wanted[log] })
}

// taken returns how many logs a turning into pockets takes, and whether it is right.
func (l line) taken(turning []int) (int, bool) {
	var last [api.MaxGapPockets]int64 // when the last log of each pocket is wanted
	taken := 0
	for log, pocket := range turning {
		if pocket < 0 {
			continue
		}
		if l.wanted[log] < last[pocket] {
			return 0, false
		}
		last[pocket] = l.wanted[log]
		taken++
	}
	return taken, true
}

// place returns the turning of each log into the first pocket that can take it.
func (l line) place() []int {
	turning := make([]int, len(l.wanted))
	var last []int64 // when the last log of each pocket is wanted
search:
	for log, when := range l.wanted {
		for pocket := range last {
			if last[pocket] <= when {
				last[pocket], turning[log] = when, pocket
				continue search
			}
		}
		turning[log] = len(last)
		last = append(last, when)
	}
	return turning
}

// lists reports whether a list is strictly increasing, and of logs.
func (l line) lists(list []int) bool {
	return within(0, len(l.wanted)-1, list...) && strictlyIncreasing(list)
}

// isRun reports whether a strictly increasing list of logs is a run.
func (l line) isRun(list []int) bool {
	for i := 1; i < len(list); i++ {
		if !l.canEnd(list[:i], list[i]) {
			return false
		}
	}
	return true
}

// canEnd reports whether a later log is wanted before the last one of a run.
func (l line) canEnd(run []int, later int) bool {
	return l.wanted[later] < l.wanted[run[len(run)-1]]
}

// longest returns the longest run, of several ones the first one in lexicographic order.
func (l line) longest() []int {
	var runs [][]int // for each log, the best one of the runs that end with it
	for log := range l.wanted {
		run := best(only(slices.Values(runs), func(run []int) bool { return l.canEnd(run, log) }), longestFirst)
		// Several runs can begin with the same one; none may be written over another one.
		runs = append(runs, append(run[:len(run):len(run)], log))
	}
	run := best(slices.Values(runs), longestFirst)
	logs := make([]int, len(run))
	copy(logs, run)
	return logs
}

// isParted reports whether each log is in just one of several lists of logs.
func (l line) isParted(lists [][]int) bool {
	var in [api.MaxGapLogs]int // in how many lists each log is
	for _, list := range lists {
		for _, log := range list {
			in[log]++
		}
	}
	for log := range l.wanted {
		if in[log] != 1 {
			return false
		}
	}
	return true
}
