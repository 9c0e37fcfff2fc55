package gap

import (
	"cmp"
	"iter"
	"slices"
)

// within reports whether all numbers are from lo to hi.
func within[N int | int64](lo, hi N, numbers ...N) bool {
	for _, n := range numbers {
		if n < lo || n > hi {
			return false
		}
	}
	return true
}

// strictlyIncreasing reports whether each number is greater than the one before it.
func strictlyIncreasing(list []int) bool {
	for i := 1; i < len(list); i++ {
		if list[i] <= list[i-1] {
			return false
		}
	}
	return true
}

// every reports whether all of a list are as is told.
func every[T any](list []T, told func(T) bool) bool {
	for _, x := range list {
		if !told(x) {
			return false
		}
	}
	return true
}

// only yields those of all that are meant.
func only[T any](all iter.Seq[T], meant func(T) bool) iter.Seq[T] {
	return func(yield func(T) bool) {
		for x := range all {
			if meant(x) && !yield(x) {
				return
			}
		}
	}
}

// best returns the one of all that comes first in an order, the zero value if there is none.
func best[T any](all iter.Seq[T], order func(one, two T) int) T {
	var first T
	found := false
	for x := range all {
		if !found || order(x, first) < 0 {
			first, found = x, true
		}
	}
	return first
}

// longestFirst is the order of lists by how long they are, from the longest one on, and then the lexicographic one.
func longestFirst(one, two []int) int {
	return cmp.Or(cmp.Compare(len(two), len(one)), slices.Compare(one, two))
}
