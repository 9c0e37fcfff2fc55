package tally

// within reports whether all numbers are from lo to hi.
func within[N int | int64](lo, hi N, numbers ...N) bool {
	for _, n := range numbers {
		if n < lo || n > hi {
			return false
		}
	}
	return true
}

// least returns the least size of all of a list; 0 if it is empty.
func least[T any](list []T, size func(T) int64) int64 {
	var found int64
	for i, x := range list {
		if n := size(x); i == 0 || n < found {
			found = n
		}
	}
	return found
}

// copied returns a list in memory of its own.
func copied[T any](list []T) []T {
	own := make([]T, len(list))
	copy(own, list)
	return own
}
