package jam

import "peavey/api"

// heap is logs of which some are pulled.
type heap struct{ all, pulled set }

// marks are for each log the wave in which it goes, counted from 1 on; 0 if it has not gone.
type marks [api.MaxJamLogs]int

// isGone reports whether a log has gone.
func (m marks) isGone(log int) bool {
	return m[log] > 0
}

// pile is a heap with its jam, and what has gone of it.
type pile struct {
	heap
	api.Jam
	marks marks
}

// open returns the pile of a jam, or the error of the jam, or ErrArg if one of the lists is none of its logs, strictly increasing.
func open(j api.Jam, lists ...[]int) (*pile, api.Errno) {
	if e := CheckJam(j); e != api.OK {
		return nil, e
	}
	p := &pile{heap: heap{all: firstLogs(len(j.Logs))}, Jam: j}
	if !every(lists, p.lists) {
		return nil, api.ErrArg
	}
	return p, api.OK
}

// openPulled returns the pile of a jam after keys are pulled, or the error of open.
func openPulled(j api.Jam, keys []int) (*pile, api.Errno) {
	p, e := open(j, keys)
	if e != api.OK {
		return nil, e
	}
	p.pull(setOf(keys))
	return p, api.OK
}

// lists reports whether a list is of logs, strictly increasing.
func (p *pile) lists(logs []int) bool {
	return within(0, len(p.Logs)-1, logs...) && strictlyIncreasing(logs)
}

// hasKind reports whether the Kind of a log is as it can be.
func hasKind(l api.JamLog) bool {
	return within(api.JamAll, api.JamSome, l.Kind)
}

// hasHolders reports whether the By of a log is as it can be.
func (p *pile) hasHolders(l api.JamLog) bool {
	return p.lists(l.By)
}

// pull lays all logs back, pulls keys, and lets all logs go that can.
func (p *pile) pull(keys set) {
	clear(p.marks[:])
	p.pulled = keys
	for log := range p.pulled.logs() {
		p.marks[log] = 1
	}
	for wave := 2; p.goIn(wave); wave++ {
	}
}

// goIn lets all logs go that are free after the waves before, and reports whether there are any.
func (p *pile) goIn(wave int) bool {
	before := p.marks
	for log := range p.Logs {
		if !before.isGone(log) && p.isFree(log, before.isGone) {
			p.marks[log] = wave
		}
	}
	return p.marks != before
}

// isFree reports whether a log is free when those logs are gone that are told to be.
func (p *pile) isFree(log int, isGone func(log int) bool) bool {
	l := p.Logs[log]
	free := l.Kind == api.JamAll
search:
	for _, holder := range l.By {
		switch {
		case l.Kind == api.JamAll && !isGone(holder):
			free = false
			break search
		case l.Kind == api.JamSome && isGone(holder):
			free = true
			break search
		}
	}
	return free
}

// waves returns in which wave each log has gone, -1 for those that stay.
func (p *pile) waves() []int {
	var waves []int
	for _, mark := range p.marks[:len(p.Logs)] {
		waves = append(waves, mark-1)
	}
	return waves
}

// stays returns the logs that have not gone.
func (p *pile) stays() set {
	stays := p.all
	for log := range p.all.logs() {
		if p.marks.isGone(log) {
			stays = stays.without(log)
		}
	}
	return stays
}
