package jam

import "slices"

// isLock reports whether a set of logs is a lock: none of them is free even when all others are gone.
func (p *pile) isLock(lock set) bool {
	for log := range lock.logs() {
		if p.isFree(log, lock.lacks) {
			return false
		}
	}
	return lock != noLogs
}

// tightLocks returns all tight locks, in lexicographic order.
func (p *pile) tightLocks() []set {
	return tight(slices.Collect(only(p.all.parts(), p.isLock)), set.holds)
}

// areApart reports whether no log is in two locks.
func areApart(locks [][]int) bool {
	var taken set
	for _, list := range locks {
		lock := setOf(list)
		if lock&taken != noLogs {
			return false
		}
		taken |= lock
	}
	return true
}

// mostApart returns as many locks that are apart as can be. Each lock can be exchanged for a tight one in it.
func (p *pile) mostApart() []set {
	locks := p.tightLocks()
	// By what logs there are: what is left of them without a lock comes before them.
	apart := make([][]set, p.all+1)
	for logs := range p.all + 1 {
		for _, lock := range locks {
			if !logs.holds(lock) {
				continue
			}
			// Several lists grow out of the one for what is left.
			rest := apart[logs&^lock]
			if len(rest) >= len(apart[logs]) {
				apart[logs] = append(rest[:len(rest):len(rest)], lock)
			}
		}
	}
	return apart[p.all]
}
