package share

import (
	"iter"

	"peavey/api"
)

// amounts are a number of logs for each owner, 0 for those that a pool does not have.
type amounts [api.MaxShareOwners]int64

// nothing is what owners have got when no log is given out.
func nothing() amounts { return amounts{} }

// table is a pool that is valid, with what its owners have got.
type table struct {
	api.SharePool
	got amounts
}

// open returns the table of a pool before any log is given out, or the error of the pool, or ErrArg if one of the owners is none of it.
func open(p api.SharePool, owners ...int) (*table, api.Errno) {
	if e := CheckPool(p); e != api.OK {
		return nil, e
	}
	if !within(0, len(p.Had)-1, owners...) {
		return nil, api.ErrArg
	}
	return &table{SharePool: p}, api.OK
}

// openShares returns the table of a pool after shares are given out, or the error of the pool, or that of numbers that are no shares.
func openShares(p api.SharePool, shares []int64) (*table, api.Errno) {
	t, e := open(p)
	switch {
	case e != api.OK:
		return nil, e
	case len(shares) != len(p.Had):
		return nil, api.ErrEqual
	case !within(0, p.Prize, shares...):
		return nil, api.ErrRange
	case sum(shares...) != p.Prize:
		return nil, api.ErrSum
	}
	copy(t.got[:], shares)
	return t, api.OK
}

// owners yields all owners.
func (t *table) owners() iter.Seq[int] {
	return func(yield func(int) bool) {
		for owner := range t.Had {
			if !yield(owner) {
				return
			}
		}
	}
}

// hasGot reports whether an owner has got a log.
func (t *table) hasGot(owner int) bool {
	return t.got[owner] > 0
}

// quotient returns what an owner had, divided by the step of a number. The step is counted in hundredth parts.
func (t *table) quotient(owner int, number int64) api.Ratio {
	return lowest(100*t.Had[owner], 100*number+t.Part)
}

// next returns the quotient by which an owner gets a log more.
func (t *table) next(owner int) api.Ratio {
	return t.quotient(owner, t.got[owner])
}

// last returns the quotient by which an owner that has got a log has got its last one.
func (t *table) last(owner int) api.Ratio {
	return t.quotient(owner, t.got[owner]-1)
}

// nextOwner returns the owner that gets the next log.
func (t *table) nextOwner() int {
	return greatest(t.owners(), func(one, two int) int { return compare(t.next(one), t.next(two)) })
}

// leastDivisor returns the least divisor that rounds no owner's Had to more than it has got.
func (t *table) leastDivisor() api.Ratio {
	return t.next(t.nextOwner())
}

// greatestDivisor returns the greatest divisor that rounds no owner's Had to less than it has got, when some log is given out.
func (t *table) greatestDivisor() api.Ratio {
	owner := greatest(only(t.owners(), t.hasGot), func(one, two int) int { return compare(t.last(two), t.last(one)) })
	return t.last(owner)
}

// isFair reports whether no log can go from one owner to another one by right.
func (t *table) isFair() bool {
	return t.got == nothing() || compare(t.leastDivisor(), t.greatestDivisor()) <= 0
}

// isRoundedBy reports whether a divisor rounds each owner's Had to what it has got.
func (t *table) isRoundedBy(x api.Ratio) bool {
	for owner := range t.owners() {
		if compare(x, t.next(owner)) < 0 || t.hasGot(owner) && compare(x, t.last(owner)) > 0 {
			return false
		}
	}
	return true
}

// quota returns the quota of an owner, rounded down and up.
func (t *table) quota(owner int) api.Range {
	logs, all := t.Had[owner]*t.Prize, sum(t.Had...)
	return api.Range{Lo: logs / all, Hi: (logs + all - 1) / all}
}
