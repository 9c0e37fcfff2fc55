package drive

import (
	"iter"

	"peavey/api"
)

// boom is the place below the last reaches; reaches are the places before it.
const boom = api.MaxDriveReaches

// spot is a place on a day.
type spot struct {
	place int
	day   int64
}

// river is reaches that run together to the boom.
type river struct{ api.DriveRiver }

// leadsDown reports whether the boom or a later reach is below a reach.
func (r river) leadsDown(reach int) bool {
	down := r.Reaches[reach].Down
	return down == -1 || within(reach+1, len(r.Reaches)-1, down)
}

// hasRightNumbers reports whether all numbers of a reach but Down are as they can be.
func (r river) hasRightNumbers(reach int) bool {
	x := r.Reaches[reach]
	return within(0, api.MaxDrivePass, x.Pass) &&
		within(0, api.MaxDriveTakes, x.Takes) &&
		within(1, r.Days, x.Water.Lo, x.Water.Hi, x.Ready) &&
		x.Water.Lo <= x.Water.Hi &&
		within(1, api.MaxDriveEvery, x.Every) &&
		within(0, api.MaxDriveLogs, x.Logs)
}

// reaches yields all reaches.
func (r river) reaches() iter.Seq[int] {
	return func(yield func(int) bool) {
		for reach := range r.Reaches {
			if !yield(reach) {
				return
			}
		}
	}
}

// days yields all days.
func (r river) days() iter.Seq[int64] {
	return func(yield func(int64) bool) {
		for before := range r.Days {
			if !yield(before + 1) {
				return
			}
		}
	}
}

// spots yields all reaches on each day.
func (r river) spots() iter.Seq[spot] {
	return func(yield func(spot) bool) {
		for day := range r.days() {
			for reach := range r.reaches() {
				if !yield(spot{reach, day}) {
					return
				}
			}
		}
	}
}

// openDays yields the open days of a reach.
func (r river) openDays(reach int) iter.Seq[int64] {
	return func(yield func(int64) bool) {
		x := r.Reaches[reach]
		for day := x.Water.Lo; day <= x.Water.Hi; day += x.Every {
			if !yield(day) {
				return
			}
		}
	}
}

// isOpen reports whether a reach is open on a day.
func (r river) isOpen(at spot) bool {
	_, found := first(r.openDays(at.place), func(day int64) bool { return day == at.day })
	return found
}

// below returns the place below a reach.
func (r river) below(reach int) int {
	if r.Reaches[reach].Down == -1 {
		return boom
	}
	return r.Reaches[reach].Down
}

// exit returns where and when a log that enters a reach on a day comes out.
func (r river) exit(at spot) spot {
	return spot{r.below(at.place), at.day + r.Reaches[at.place].Takes}
}
