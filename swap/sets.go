package swap

import (
	"iter"
	"maps"
)

// A set of mills is a number, as in package api: its bits are the mills.
const noMills = 0

// with returns a set with a mill more.
func with(set, mill int) int { return set | 1<<mill }

// without returns a set without a mill.
func without(set, mill int) int { return set &^ (1 << mill) }

// mills yields the mills of a set, increasing.
func (l *ledger) mills(set int) iter.Seq[int] {
	return func(yield func(int) bool) {
		for mill := range l.Mills {
			if with(set, mill) == set && !yield(mill) {
				return
			}
		}
	}
}

// all returns the set of all mills.
func (l *ledger) all() int {
	return with(noMills, l.Mills) - 1
}

// isSet reports whether a number is a set of at least one mill.
func (l *ledger) isSet(number int) bool {
	return within(noMills+1, l.all(), number)
}

// band is a set of mills with what their balances sum up to.
type band struct {
	set int
	sum int64
}

// bands yields the bands of all sets of mills, by their numbers.
func (l *ledger) bands() iter.Seq[band] {
	return func(yield func(band) bool) {
		for set := range l.all() + 1 {
			b := band{set: set}
			for mill := range l.mills(set) {
				b.sum += l.balances[mill]
			}
			if !yield(b) {
				return
			}
		}
	}
}

// evenSets returns the bands of all even sets.
func (l *ledger) evenSets() map[band]bool {
	even := make(map[band]bool, l.all()+1)
	for b := range l.bands() {
		even[b] = true
	}
	maps.DeleteFunc(even, func(b band, _ bool) bool { return b.sum != 0 })
	return even
}

// isEven reports whether a set is even.
func (l *ledger) isEven(set int) bool {
	return l.even[band{set: set}]
}

// haveEachOnce reports whether each mill is in just one of some sets.
func (l *ledger) haveEachOnce(sets []int) bool {
	taken := noMills
	for _, set := range sets {
		if set&taken != noMills {
			return false
		}
		taken |= set
	}
	return taken == l.all()
}
