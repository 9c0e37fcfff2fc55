package drive

import "slices"

// newCut returns a cut for a day, with the day after it for the boom: logs come in time if they come to the boom before then.
func newCut(day int64, first []int64) counts {
	var c counts
	copy(c[:], first)
	c[boom] = day + 1
	return c
}

// bound returns the bound of a cut.
func (r river) bound(c counts) int64 {
	var bound int64
	for reach, x := range r.Reaches {
		if c[reach] > x.Ready {
			bound += x.Logs
		}
		for day := range r.openDays(reach) {
			out := r.exit(spot{reach, day})
			if day >= c[reach] && out.day < c[out.place] {
				bound += x.Pass
			}
		}
	}
	return bound
}

// cut returns a cut for a day with the least bound, from the early plan. Before the first day of a reach all logs that have come above it have entered it; from then on it is full on each open day that counts. So the plan brings as many as the bound.
func (y *year) cut(day int64) counts {
	c := newCut(day, nil)
	for reach := range slices.Backward(y.Reaches) {
		c[reach] = y.firstDay(reach, c[y.below(reach)])
	}
	return c
}

// firstDay returns the day after the last one on which no log is left above a reach, of those on which a log that enters it comes out before an end; 1 if there is none.
func (y *year) firstDay(reach int, end int64) int64 {
	first := int64(1)
search:
	for day := range y.days() {
		switch {
		case y.exit(spot{reach, day}).day >= end:
			break search
		case y.evenings[day].above(reach) == 0:
			first = day + 1
		}
	}
	return first
}
