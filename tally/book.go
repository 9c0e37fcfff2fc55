package tally

import "peavey/api"

const (
	mostCells   = api.MaxTallyOwners * api.MaxTallyPockets
	mostTallies = api.MaxTallyOwners + api.MaxTallyPockets + 1
	mostLogs    = mostCells * api.MaxTallyLogs
)

// sums are numbers of logs of all owners, then of all pockets, and of All.
type sums [mostTallies]int64

// none is the sums of no logs.
func none() sums { return sums{} }

// size returns how many logs there are in all sums, each as many as it is from 0.
func (s sums) size() int64 {
	var size int64
	for _, logs := range s {
		size += max(logs, -logs)
	}
	return size
}

// book is a sheet that is valid, with a table.
type book struct {
	api.TallySheet
	// The ranges of all owners, then of all pockets, and of All.
	tallies []api.Range
	// How many of the tallies count so far; the others are taken for right, whatever their sums are.
	counted int
	table   [mostCells]int64
	sums    sums
}

// open returns the book of a sheet, with the least number in each cell, or the error of the sheet.
func open(s api.TallySheet) (*book, api.Errno) {
	if e := CheckSheet(s); e != api.OK {
		return nil, e
	}
	b := &book{TallySheet: s}
	// What is behind the owners is not the book's.
	b.tallies = append(s.Owners[:len(s.Owners):len(s.Owners)], s.Pockets...)
	b.tallies = append(b.tallies, s.All)
	for cell, r := range s.Cells {
		b.table[cell] = r.Lo
	}
	b.count()
	return b, api.OK
}

// openBest returns the book of a sheet, with a table that is wrong by as little as can be, or the error of the sheet.
func openBest(s api.TallySheet) (*book, api.Errno) {
	b, e := open(s)
	if e != api.OK {
		return nil, e
	}
	b.settle()
	return b, api.OK
}

// openRight returns the book of a sheet, with a table that has the tallies, or the error of the sheet, or ErrTally if there is none.
func openRight(s api.TallySheet) (*book, api.Errno) {
	b, e := openBest(s)
	switch {
	case e != api.OK:
		return nil, e
	case !b.hasTallies():
		return nil, api.ErrTally
	}
	return b, api.OK
}

// areValid reports whether all ranges are valid, with ends that can be numbers of logs.
func areValid(ranges ...api.Range) bool {
	for _, r := range ranges {
		if !within(0, api.MaxTallyLogs, r.Lo, r.Hi) || r.Lo > r.Hi {
			return false
		}
	}
	return true
}

// isTable reports whether a list of a number for each cell is a table.
func (b *book) isTable(list []int64) bool {
	for cell, r := range b.Cells {
		if !within(r.Lo, r.Hi, list[cell]) {
			return false
		}
	}
	return true
}

// take takes a table over.
func (b *book) take(table []int64) {
	copy(b.table[:], table)
	b.count()
}

// talliesOf returns the three tallies that a cell is counted for.
func (b *book) talliesOf(cell int) [3]int {
	owners, pockets := len(b.Owners), len(b.Pockets)
	return [3]int{cell / pockets, owners + cell%pockets, owners + pockets}
}

// count counts what the table sums up to.
func (b *book) count() {
	clear(b.sums[:])
	for cell := range b.Cells {
		for _, t := range b.talliesOf(cell) {
			b.sums[t] += b.table[cell]
		}
	}
}

// missing returns how many logs are missing for each tally; below 0 are those that are too many.
func (b *book) missing() sums {
	var missing sums
	for t, r := range b.tallies {
		missing[t] = max(r.Lo-b.sums[t], 0) + min(r.Hi-b.sums[t], 0)
	}
	return missing
}

// hasTallies reports whether the table has the tallies.
func (b *book) hasTallies() bool {
	return b.missing() == none()
}
