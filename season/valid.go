package season

import "peavey/api"

// open returns the office of a season, or the error of the season.
func open(s api.Season) (*office, api.Errno) {
	o := &office{Season: s}
	switch {
	case len(s.Owners) > api.MaxSeasonOwners, len(s.Logs) > api.MaxSeasonLogs:
		return nil, api.ErrMany
	case !every(s.Owners, isOwnerFormed), !every(s.Logs, isLogFormed):
		return nil, api.ErrForm
	case !every(s.Owners, isOwnerInRange), !every(s.Logs, isLogInRange):
		return nil, api.ErrRange
	case !o.isInOrder():
		return nil, api.ErrHave
	case o.hasStray():
		return nil, api.ErrNone
	case !every(s.Logs, o.isByRule):
		return nil, api.ErrRule
	}
	o.count()
	if o.wrong() != none() {
		return nil, api.ErrSum
	}
	return o, api.OK
}

// openAt returns the office of a season, and the index of an owner, or the error of the season, or ErrNone if there is no such owner.
func openAt(s api.Season, owner int64) (*office, int, api.Errno) {
	o, e := open(s)
	if e != api.OK {
		return nil, 0, e
	}
	index, isOwner := o.findOwner(owner)
	if !isOwner {
		return nil, 0, api.ErrNone
	}
	return o, index, api.OK
}

func isOwnerFormed(x api.SeasonOwner) bool { return isMark(x.Mark) }

func isLogFormed(l api.SeasonLog) bool { return isSeen(l.Seen) }

func isOwnerInRange(x api.SeasonOwner) bool {
	return within(1, api.MaxNumber, x.Number)
}

func isLogInRange(l api.SeasonLog) bool {
	return within(1, api.MaxNumber, l.Number) && within(1, api.MaxSeasonFeet, l.Feet) && within(prize, api.MaxNumber, l.Owner)
}

// isInOrder reports whether all marks are different, and all logs, and the owners come by their numbers.
func (o *office) isInOrder() bool {
	for i := range len(o.Owners) - 1 {
		if o.Owners[i].Number >= o.Owners[i+1].Number {
			return false
		}
	}
	markOf := func(x api.SeasonOwner) string { return x.Mark }
	numberOf := func(l api.SeasonLog) int64 { return l.Number }
	return areDifferent(o.Owners, markOf) && areDifferent(o.Logs, numberOf)
}

// hasStray reports whether a log has an owner that there is not.
func (o *office) hasStray() bool {
search:
	for _, l := range o.Logs {
		if l.Owner == prize {
			continue
		}
		for _, x := range o.Owners {
			if x.Number == l.Owner {
				continue search
			}
		}
		return true
	}
	return false
}

// isByRule reports whether a log that is no stray can be its owner's, and is here if it is a prize log.
func (o *office) isByRule(l api.SeasonLog) bool {
	if l.Owner == prize {
		return !l.Gone
	}
	i, _ := o.findOwner(l.Owner)
	return canBeWorn(o.Owners[i].Mark, l.Seen)
}

// wrong returns by how much each owner has paid too much, or, below 0, less than nothing.
func (o *office) wrong() pence {
	var wrong pence
	for i, x := range o.Owners {
		wrong[i] = x.Paid - max(0, min(x.Paid, o.fees[i]))
	}
	return wrong
}
