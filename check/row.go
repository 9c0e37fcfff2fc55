package check

import "peavey/api"

// row is in how many ways logs can be chosen, by how many of them are. No row has a number beyond 2^47.
type row [api.MaxCheckLogs + 1]int64

// none is the row of no logs: there is one way to choose none of them.
func none() row { return row{1} }

// fill makes a row that of so many logs, whatever it was.
func (r *row) fill(logs int) {
	clear(r[:])
	r[0] = 1
	for range logs {
		r.add()
	}
}

// add makes a row that of one log more: what is chosen is chosen without this log, or has it.
func (r *row) add() {
	for size := len(r) - 1; size > 0; size-- {
		r[size] += r[size-1]
	}
}

// remove makes a row, but that of no logs, that of one log fewer.
func (r *row) remove() {
	for size := 1; size < len(r); size++ {
		r[size] -= r[size-1]
	}
}
