package season

import "peavey/api"

// prize is the owner of a prize log.
const prize = 0

// feetOfPenny is for how many feet of a log a penny is due.
const feetOfPenny = 10

// pence is a sum for each owner.
type pence [api.MaxSeasonOwners]int64

// none is the pence of owners of whom nothing is due.
func none() pence { return pence{} }

// brand is a mark, and whose it is.
type brand struct {
	mark  string
	owner int64
}

// office is a clerk's office.
type office struct {
	api.Season
	fees pence
}

// findOwner returns the index of an owner.
func (o *office) findOwner(number int64) (index int, isOwner bool) {
	return first(o.Owners, func(x api.SeasonOwner) bool { return x.Number == number })
}

// findLog returns the index of a log.
func (o *office) findLog(number int64) (index int, isLog bool) {
	return first(o.Logs, func(x api.SeasonLog) bool { return x.Number == number })
}

// count counts the fees of all owners.
func (o *office) count() {
	clear(o.fees[:])
	for _, l := range o.Logs {
		if i, isOwner := o.findOwner(l.Owner); isOwner {
			o.fees[i] += api.SeasonFee + l.Feet/feetOfPenny
		}
	}
}

// owed returns what the owner with an index owes.
func (o *office) owed(index int) int64 {
	return o.fees[index] - o.Owners[index].Paid
}

// brands returns the marks that there are.
func (o *office) brands() map[brand]bool {
	brands := map[brand]bool{}
	for _, x := range o.Owners {
		brands[brand{x.Mark, x.Number}] = true
	}
	return brands
}

// worn returns the owners whose mark can be worn to what is seen, increasing.
func (o *office) worn(seen string) []int64 {
	brands := o.brands()
	for b := range brands {
		if !canBeWorn(b.mark, seen) {
			delete(brands, b)
		}
	}
	var worn []int64
	for _, x := range o.Owners {
		if brands[brand{x.Mark, x.Number}] {
			worn = append(worn, x.Number)
		}
	}
	return worn
}

// here returns the indices of the logs of an owner that are here, increasing.
func (o *office) here(owner int64) []int {
	var here []int
	for i, l := range o.Logs {
		if l.Owner == owner && !l.Gone {
			here = append(here, i)
		}
	}
	return here
}

// taken returns the season in memory of its own.
func (o *office) taken() api.Season {
	return api.Season{Owners: copied(o.Owners), Logs: copied(o.Logs)}
}
