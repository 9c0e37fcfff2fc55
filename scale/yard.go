package scale

import (
	"iter"

	"peavey/api"
)

// yard is a stem and a rule that are valid, and prices of the places of the stem.
type yard struct {
	api.ScaleStem
	api.ScaleRule
	prices table
}

// table is a number for each place.
type table [api.MaxScalePlaces]int64

// part is a right log and what it scales, or a foot of waste, which scales 0. A cutting splits a stem into parts in just one way.
type part struct {
	api.ScaleLog
	feet int64
}

// open returns the yard of a stem and a rule, without prices, or the error of one of them.
func open(s api.ScaleStem, r api.ScaleRule) (*yard, api.Errno) {
	if e := CheckStem(s); e != api.OK {
		return nil, e
	}
	if e := CheckRule(r); e != api.OK {
		return nil, e
	}
	return &yard{ScaleStem: s, ScaleRule: r}, api.OK
}

// openPriced returns the yard of a stem and a rule, with the least right prices, or the error of one of them, or ErrArg if one of the places is none.
func openPriced(s api.ScaleStem, r api.ScaleRule, places ...int) (*yard, api.Errno) {
	y, e := open(s, r)
	if e != api.OK {
		return nil, e
	}
	if !within(0, len(y.Thick)-1, places...) {
		return nil, api.ErrArg
	}
	y.price(part.isAny)
	return y, api.OK
}

// isWaste reports whether a part is a foot of waste: a right log scales at least 1.
func (p part) isWaste() bool {
	return p.feet == 0
}

// isAny lets all parts.
func (p part) isAny() bool {
	return true
}

// lies reports whether a log has two places of the stem, From less than To.
func (y *yard) lies(log api.ScaleLog) bool {
	return within(0, len(y.Thick)-1, log.From, log.To) && log.From < log.To
}

// isSound reports whether no foot of a log is bad.
func (y *yard) isSound(log api.ScaleLog) bool {
search:
	for _, foot := range y.Bad {
		switch {
		case foot >= log.To:
			break search
		case foot >= log.From:
			return false
		}
	}
	return true
}

// feet returns what a log with two places of the stem scales if it is right, otherwise 0.
func (y *yard) feet(log api.ScaleLog) int64 {
	length, thick := log.To-log.From-y.Trim, y.Thick[log.To]
	if !within(y.Least, y.Most, length) || length%y.Step != 0 || thick < y.Thin || !y.isSound(log) {
		return 0
	}
	side := max(thick-y.Off, 0)
	return side * side * int64(length) / y.Div
}

// parts yields the parts that begin at a place: the foot of waste, then the right logs.
func (y *yard) parts(place int) iter.Seq[part] {
	return func(yield func(part) bool) {
		for to := place + 1; to < len(y.Thick); to++ {
			log := api.ScaleLog{From: place, To: to}
			if to == place+1 && !yield(part{ScaleLog: log}) {
				return
			}
			if feet := y.feet(log); feet > 0 && !yield(part{log, feet}) {
				return
			}
		}
	}
}

// worth returns what a part scales, and the price of the place where it ends.
func (y *yard) worth(p part) int64 {
	return p.feet + y.prices[p.To]
}

// price makes the price of each place the most that parts which are let scale from there on.
func (y *yard) price(let func(part) bool) {
	clear(y.prices[:]) // the stem may have been longer when it was priced before
	for place := len(y.Thick) - 2; place >= 0; place-- {
		y.prices[place] = greatest(y.parts(place), let, y.worth)
	}
}

// lacking returns by how much the price of each place is too low to be right.
func (y *yard) lacking() table {
	var lacking table
	for place := range y.Thick {
		lacking[place] = max(0, greatest(y.parts(place), part.isAny, y.worth)-y.prices[place])
	}
	return lacking
}
