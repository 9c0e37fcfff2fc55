package drive

import (
	"slices"

	"peavey/api"
)

// counts are a number for each place.
type counts [boom + 1]int64

// evening is the end of a day.
type evening struct {
	come    counts // how many logs have come above each reach, or to the boom
	entered counts // how many logs have entered each reach
}

// above returns how many logs are above a reach; below 0 if some that have entered it have not come.
func (e evening) above(reach int) int64 {
	return e.come[reach] - e.entered[reach]
}

// year is a river that is valid, and how logs are driven down it.
type year struct {
	river
	evening                                // so far
	gone     map[spot]int64                // how many logs have gone to where they come on a day that is not over
	evenings [api.MaxDriveDays + 1]evening // of all days, and of the time before the first one
}

// open returns the year of a river, before any log is driven, or the error of the river, or ErrRange if one of the days is none of the river.
func open(r api.DriveRiver, days ...int64) (*year, api.Errno) {
	if e := CheckRiver(r); e != api.OK {
		return nil, e
	}
	if !within(1, r.Days, days...) {
		return nil, api.ErrRange
	}
	// Worth and Latest change a reach of the year; that of the argument has to stay as it is.
	r.Reaches = slices.Clone(r.Reaches)
	return &year{river: river{r}, gone: map[spot]int64{}}, api.OK
}

// openReach returns the year of a river as open does, or ErrArg if there is no such reach.
func openReach(r api.DriveRiver, day int64, reach int) (*year, api.Errno) {
	y, e := open(r, day)
	if e != api.OK {
		return nil, e
	}
	if !within(0, len(r.Reaches)-1, reach) {
		return nil, api.ErrArg
	}
	return y, api.OK
}

// drive lets logs enter the reaches day by day, as many as a rule says, whether they have come or not.
func (y *year) drive(rule func(spot) int64) {
	y.begin()
	for day := range y.days() {
		for reach := range y.reaches() {
			at := spot{reach, day}
			y.arrive(at)
			y.enter(at, rule(at))
		}
		y.arrive(spot{boom, day})
		y.evenings[day] = y.evening
	}
}

// begin lays all logs on their banks, and forgets what was driven before.
func (y *year) begin() {
	clear(y.come[:])
	clear(y.entered[:])
	clear(y.gone)
	for reach, r := range y.Reaches {
		y.gone[spot{reach, r.Ready}] = r.Logs
	}
}

// arrive lets the logs that have gone to a place come there on their day.
func (y *year) arrive(at spot) {
	y.come[at.place] += y.gone[at]
	delete(y.gone, at)
}

// enter lets so many logs into a reach.
func (y *year) enter(at spot, logs int64) {
	y.entered[at.place] += logs
	y.gone[y.exit(at)] += logs
}

// early is the rule of the early plan.
func (y *year) early(at spot) int64 {
	if !y.isOpen(at) {
		return 0
	}
	return min(y.Reaches[at.place].Pass, y.above(at.place))
}

// hasEnough reports whether all logs that have entered a reach up to a day have come above it.
func (y *year) hasEnough(at spot) bool {
	return y.evenings[at.day].above(at.place) >= 0
}

// left returns how many logs are above each reach at the end of the last day.
func (y *year) left() counts {
	var left counts
	for reach := range y.reaches() {
		left[reach] = y.above(reach)
	}
	return left
}

// brought returns how many logs are at the boom on a day.
func (y *year) brought(day int64) int64 {
	return y.evenings[day].come[boom]
}

// isNew reports whether a day is the first one, or logs have come anywhere on it: on any other day no number of logs is at the boom for the first time.
func (y *year) isNew(day int64) bool {
	return day == 1 || y.evenings[day].come != y.evenings[day-1].come
}

// most drives the early plan, and returns how many logs it brings by a day.
func (y *year) most(day int64) int64 {
	y.drive(y.early)
	return y.brought(day)
}

// latest returns the last day on which the logs of a reach can be ready so that as many logs come by a day.
func (y *year) latest(day int64, reach int) int64 {
	most := y.most(day)
	latest := y.Reaches[reach].Ready
	for latest < y.Days {
		y.Reaches[reach].Ready = latest + 1
		if y.most(day) < most {
			break
		}
		latest++
	}
	return latest
}
