package boom

import "iter"

// within reports whether all numbers are from lo to hi.
func within(lo, hi int, numbers ...int) bool {
	for _, n := range numbers {
		if n < lo || n > hi {
			return false
		}
	}
	return true
}

// strictlyIncreasing reports whether each number is greater than the one before it.
func strictlyIncreasing(list []int) bool {
	for i := 1; i < len(list); i++ {
		if list[i] <= list[i-1] {
			return false
		}
	}
	return true
}

// every reports whether all of a list are as is told.
func every[T any](list []T, told func(T) bool) bool {
	for _, x := range list {
		if !told(x) {
			return false
		}
	}
	return true
}

// only yields those of all that are meant.
func only[T any](all iter.Seq[T], meant func(T) bool) iter.Seq[T] {
	return func(yield func(T) bool) {
		for x := range all {
			if meant(x) && !yield(x) {
				return
			}
		}
	}
}

// best returns the one of all that is the greatest, the first one of several, the zero value if none is greater than 0.
func best[T any](all iter.Seq[T], great func(T) int) T {
	var found T
	greatest := 0
	for x := range all {
		if n := great(x); n > greatest {
			found, greatest = x, n
		}
	}
	return found
}
