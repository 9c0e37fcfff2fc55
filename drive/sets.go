package drive

import "iter"

// within reports whether all numbers are from lo to hi.
func within[N int | int64](lo, hi N, numbers ...N) bool {
	for _, n := range numbers {
		if n < lo || n > hi {
			return false
		}
	}
	return true
}

// first returns the first one of all that is meant, and whether there is one.
func first[T any](all iter.Seq[T], meant func(T) bool) (T, bool) {
	for x := range all {
		if meant(x) {
			return x, true
		}
	}
	var none T
	return none, false
}

// every reports whether all are meant.
func every[T any](all iter.Seq[T], meant func(T) bool) bool {
	_, found := first(all, func(x T) bool { return !meant(x) })
	return !found
}

// copied returns a list in memory of its own.
func copied(list []int64) []int64 {
	own := make([]int64, len(list))
	copy(own, list)
	return own
}
