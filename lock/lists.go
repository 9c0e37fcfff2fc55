package lock

import "iter"

// within reports whether all numbers are from lo to hi.
func within[N int | int64](lo, hi N, numbers ...N) bool {
	for _, n := range numbers {
		if n < lo || n > hi {
			return false
		}
	}
	return true
}

// every reports whether all of a list are as is told.
func every[T any](list []T, told func(T) bool) bool {
	for _, x := range list {
		if !told(x) {
			return false
		}
	}
	return true
}

// least returns the least one of all, the first of several; the zero value if there is none.
func least[T any](all iter.Seq[T], order func(one, two T) int) T {
	var found T
	none := true
	for x := range all {
		if none || order(x, found) < 0 {
			found, none = x, false
		}
	}
	return found
}

// copied returns a list in memory of its own.
func copied[T any](list []T) []T {
	own := make([]T, len(list))
	copy(own, list)
	return own
}
