package check

import (
	"iter"

	"peavey/api"
)

// within reports whether all numbers are from lo to hi.
func within[N int | int64](lo, hi N, numbers ...N) bool {
	for _, n := range numbers {
		if n < lo || n > hi {
			return false
		}
	}
	return true
}

// lowest returns a number, num by den, in least terms, if den is above 0 and num not below.
func lowest(num, den int64) api.Ratio {
	one, two := num, den
	for two > 0 {
		one, two = two, one%two
	}
	return api.Ratio{Num: num / one, Den: den / one}
}

// first returns the first one of all that is good; the zero value if none is.
func first[T any](all iter.Seq[T], isGood func(T) bool) T {
	for x := range all {
		if isGood(x) {
			return x
		}
	}
	var none T
	return none
}

// copied returns a list in memory of its own.
func copied[T any](list []T) []T {
	own := make([]T, len(list))
	copy(own, list)
	return own
}
