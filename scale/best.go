package scale

import "peavey/api"

// spot is a place where parts begin, or where they end.
type spot struct {
	place int
	end   bool
}

// known is whether a log of a best cutting begins, or ends, at a spot, and the logs of one of the best cuttings up to there.
type known struct {
	log     bool
	cutting []api.ScaleLog
}

// isBest reports whether a part begins a best cutting of what lies behind its first place, if the prices are the least right ones. All parts of a best cutting do.
func (y *yard) isBest(p part) bool {
	return y.worth(p) == y.prices[p.From]
}

// walk returns what is known of the spots to which the parts of best cuttings lead.
func (y *yard) walk() map[spot]known {
	spots := map[spot]known{{0, true}: {}}
	for place := range y.Thick {
		here, reached := spots[spot{place, true}]
		if !reached {
			continue
		}
		for p := range y.parts(place) {
			if y.isBest(p) {
				note(spots, p, here.cutting)
			}
		}
	}
	return spots
}

// note notes a part of best cuttings, one of which has these logs before it.
func note(spots map[spot]known, p part, before []api.ScaleLog) {
	after := before
	if !p.isWaste() {
		// Several logs can follow on the same ones; none may be written over another one.
		after = append(before[:len(before):len(before)], p.ScaleLog)
	}
	add(spots, spot{p.From, false}, known{!p.isWaste(), before})
	add(spots, spot{p.To, true}, known{!p.isWaste(), after})
}

// add adds to what is known of a spot; the first cutting stays.
func add(spots map[spot]known, at spot, more known) {
	if k, noted := spots[at]; noted {
		more = known{k.log || more.log, k.cutting}
	}
	spots[at] = more
}

// mayCut reports whether a place is cut in some best cutting.
func (y *yard) mayCut(place int) bool {
	spots := y.walk()
	for at, k := range spots {
		if !k.log {
			delete(spots, at)
		}
	}
	_, begin := spots[spot{place, false}]
	_, end := spots[spot{place, true}]
	return begin || end
}

// count returns how many best cuttings there are, and MaxNumber + 1 if there are more than MaxNumber.
func (y *yard) count() int64 {
	var counts table
	counts[len(y.Thick)-1] = 1
	for place := len(y.Thick) - 2; place >= 0; place-- {
		for p := range y.parts(place) {
			if y.isBest(p) {
				counts[place] = min(counts[place]+counts[p.To], api.MaxNumber+1)
			}
		}
	}
	return counts[0]
}

// between returns from the least to the greatest that the logs of a best cutting scale in another yard with the stem.
func (y *yard) between(other *yard) api.Range {
	var by [api.MaxScalePlaces]api.Range
	most := func(p part) int64 { return other.scales(p) + by[p.To].Hi }
	least := func(p part) int64 { return -other.scales(p) - by[p.To].Lo }
	for place := len(y.Thick) - 2; place >= 0; place-- {
		by[place].Hi = greatest(y.parts(place), y.isBest, most)
		by[place].Lo = -greatest(y.parts(place), y.isBest, least)
	}
	return by[0]
}

// scales returns what a part of another yard with the stem scales: a foot that is waste there is, even if it were a right log here.
func (y *yard) scales(p part) int64 {
	if p.isWaste() {
		return 0
	}
	return y.feet(p.ScaleLog)
}
