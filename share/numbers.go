package share

import (
	"cmp"
	"iter"

	"peavey/api"
)

// within reports whether all numbers are from lo to hi.
func within[N int | int64](lo, hi N, numbers ...N) bool {
	for _, n := range numbers {
		if n < lo || n > hi {
			return false
		}
	}
	return true
}

// sum returns all numbers together.
func sum(numbers ...int64) int64 {
	var all int64
	for _, n := range numbers {
		all += n
	}
	return all
}

// lowest returns a number, num by den, in least terms, of numbers above 0. So equal ones are the same.
func lowest(num, den int64) api.Ratio {
	one, two := num, den
	for two > 0 {
		one, two = two, one%two
	}
	return api.Ratio{Num: num / one, Den: den / one}
}

// compare compares a quotient with another one, or with a divisor. No product is beyond 2^63, as the numbers of a quotient are up to 100 times MaxShareHad, those of a divisor up to MaxShareDivisor.
func compare(one, two api.Ratio) int {
	return cmp.Compare(one.Num*two.Den, two.Num*one.Den)
}

// choices returns in how many ways so many can be chosen of all.
func choices(all, many int64) int64 {
	ways := int64(1)
	for i := range many {
		// Nothing is left over: these are the ways to choose i+1 of all.
		ways = ways * (all - i) / (i + 1)
	}
	return ways
}

// only yields those of all that are meant.
func only[T any](all iter.Seq[T], meant func(T) bool) iter.Seq[T] {
	return func(yield func(T) bool) {
		for x := range all {
			if meant(x) && !yield(x) {
				return
			}
		}
	}
}

// greatest returns the greatest one of all, the first of several; the zero value if there is none.
func greatest[T any](all iter.Seq[T], order func(one, two T) int) T {
	var found T
	none := true
	for x := range all {
		if none || order(x, found) > 0 {
			found, none = x, false
		}
	}
	return found
}

// copied returns a list in memory of its own.
func copied[T any](list []T) []T {
	own := make([]T, len(list))
	copy(own, list)
	return own
}
