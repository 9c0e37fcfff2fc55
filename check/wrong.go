package check

import "peavey/api"

// between returns from which to which number of wrong logs none is too small or too great for a risk.
func (b *bench) between(size, found int, risk api.Ratio) api.Range {
	// Wrong logs are too many just if the right ones are too few for those of them that are in the sample.
	return api.Range{
		Lo: int64(b.least(size, found, risk)),
		Hi: int64(b.All - b.least(size, size-found, risk)),
	}
}

// least returns the least number of wrong logs that is not too small for a risk.
func (b *bench) least(size, found int, risk api.Ratio) int {
	isEnough := func(m boom) bool { return !b.isRare(m.atLeast(size, found), size, risk) }
	return first(b.booms(), isEnough).wrong
}

// finding is how many are found, with how many wrong logs in the boom.
type finding struct{ wrong, found int }

// findings returns in how many samples of a size there is each finding, without those that there are in none.
func (b *bench) findings(size int) map[finding]int64 {
	samples := map[finding]int64{}
	for m := range b.booms() {
		for found := range size + 1 {
			samples[finding{m.wrong, found}] = m.samples(size, found)
		}
	}
	for f, many := range samples {
		if many == 0 {
			delete(samples, f)
		}
	}
	return samples
}

// likely returns the least number of wrong logs with which most samples of a size have so many found.
func (b *bench) likely(size, found int) int {
	samples := b.findings(size)
	var most int64
	for f, many := range samples {
		if f.found == found {
			most = max(most, many)
		}
	}
	isMost := func(m boom) bool { return samples[finding{m.wrong, found}] == most }
	return first(b.booms(), isMost).wrong
}
