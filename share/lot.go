package share

import (
	"iter"
	"slices"

	"peavey/api"
)

// lot is the logs that go by a quotient: how many there are, and which owners can get one.
type lot struct {
	by     api.Ratio
	logs   int64
	owners []int
}

// isEnough reports whether each of the owners gets one of the logs.
func (l lot) isEnough() bool {
	return l.logs == int64(len(l.owners))
}

// logs yields the owners that get the logs, as these are given out; each time it begins anew.
func (t *table) logs() iter.Seq[int] {
	return func(yield func(int) bool) {
		clear(t.got[:])
		for range t.Prize {
			owner := t.nextOwner()
			t.got[owner]++
			if !yield(owner) {
				return
			}
		}
	}
}

// order gives all logs out, and returns the owners that get them.
func (t *table) order() []int {
	var room [api.MaxSharePrize]int
	order := room[:0:t.Prize]
	for owner := range t.logs() {
		order = append(order, owner)
	}
	return copied(order)
}

// giveOut gives all logs out, and returns those that go by the last quotient; none if there are no logs.
func (t *table) giveOut() lot {
	var last api.Ratio
	logs := map[api.Ratio]int64{}
	for owner := range t.logs() {
		by := t.last(owner)
		// Quotients never rise, so the one before does not come again.
		if by != last {
			delete(logs, last)
		}
		logs[by]++
		last = by
	}
	return lot{last, logs[last], t.contenders(last)}
}

// contenders returns the owners whose last log went by a quotient, or whose next one would.
func (t *table) contenders(by api.Ratio) []int {
	var owners []int
search:
	for owner := range t.owners() {
		got := t.got[owner]
		for number := max(got-1, 0); number <= got; number++ {
			if t.quotient(owner, number) == by {
				owners = append(owners, owner)
				continue search
			}
		}
	}
	return owners
}

// span returns the least and the greatest share of an owner, when all logs are given out and the last ones are known.
func (t *table) span(owner int, last lot) api.Range {
	got := t.got[owner]
	switch {
	case last.isEnough() || !slices.Contains(last.owners, owner):
		return api.Range{Lo: got, Hi: got}
	case t.next(owner) == last.by:
		return api.Range{Lo: got, Hi: got + 1}
	}
	return api.Range{Lo: got - 1, Hi: got}
}
