package season

import (
	"iter"

	"peavey/api"
)

// deed returns what a line does that is no strike.
func (o *office) deed(word string) func(line) api.Errno {
	switch word {
	case wordMark:
		return o.mark
	case wordLog:
		return o.log
	case wordClaim:
		return o.claim
	case wordRaft:
		return o.raft
	}
	return o.pay
}

// do does a line that is no strike.
func (o *office) do(l line) api.Errno {
	deed := o.deed(l.word)
	e := deed(l)
	o.count()
	return e
}

// again returns the office after lines that are done one after another, or the error of the first one that is refused.
func again(lines iter.Seq[line]) (*office, api.Errno) {
	o := &office{}
	for l := range lines {
		if e := o.do(l); e != api.OK {
			return nil, e
		}
	}
	return o, api.OK
}

func (o *office) mark(l line) api.Errno {
	_, isTaken := first(o.Owners, func(x api.SeasonOwner) bool { return x.Number == l.owner || x.Mark == l.letters })
	switch {
	case isTaken:
		return api.ErrHave
	case len(o.Owners) == api.MaxSeasonOwners:
		return api.ErrFull
	}
	at, _ := first(o.Owners, func(x api.SeasonOwner) bool { return x.Number > l.owner })
	o.Owners = inserted(o.Owners, at, api.SeasonOwner{Number: l.owner, Mark: l.letters})
	return api.OK
}

func (o *office) log(l line) api.Errno {
	_, isTaken := o.findLog(l.log)
	switch {
	case isTaken:
		return api.ErrHave
	case len(o.Logs) == api.MaxSeasonLogs:
		return api.ErrFull
	}
	next := api.SeasonLog{Number: l.log, Seen: l.letters, Feet: l.many, Owner: prize}
	if worn := o.worn(l.letters); len(worn) == 1 {
		next.Owner = worn[0]
	}
	o.Logs = inserted(o.Logs, len(o.Logs), next)
	return api.OK
}

func (o *office) claim(l line) api.Errno {
	log, isLog := o.findLog(l.log)
	owner, isOwner := o.findOwner(l.owner)
	switch {
	case !isLog || !isOwner:
		return api.ErrNone
	case o.Logs[log].Owner != prize:
		return api.ErrState
	case !canBeWorn(o.Owners[owner].Mark, o.Logs[log].Seen):
		return api.ErrMark
	}
	o.Logs[log].Owner = l.owner
	return api.OK
}

func (o *office) raft(l line) api.Errno {
	_, isOwner := o.findOwner(l.owner)
	here := o.here(l.owner)
	switch {
	case !isOwner:
		return api.ErrNone
	case int64(len(here)) < l.many:
		return api.ErrMany
	}
	for _, log := range here[:l.many] {
		o.Logs[log].Gone = true
	}
	return api.OK
}

func (o *office) pay(l line) api.Errno {
	owner, isOwner := o.findOwner(l.owner)
	switch {
	case !isOwner:
		return api.ErrNone
	case l.many > o.owed(owner):
		return api.ErrOver
	}
	o.Owners[owner].Paid += l.many
	return api.OK
}
