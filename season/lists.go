package season

// within reports whether all numbers are from lo to hi.
func within[N int | int32 | int64](lo, hi N, numbers ...N) bool {
	for _, n := range numbers {
		if n < lo || n > hi {
			return false
		}
	}
	return true
}

// first returns the index of the first element that is meant; the length of the list if there is none.
func first[T any](list []T, isMeant func(T) bool) (index int, isFound bool) {
	for i, x := range list {
		if isMeant(x) {
			return i, true
		}
	}
	return len(list), false
}

// every reports whether all elements of a list are right.
func every[T any](list []T, isRight func(T) bool) bool {
	_, isWrong := first(list, func(x T) bool { return !isRight(x) })
	return !isWrong
}

// areDifferent reports whether no two elements of a list have the same key.
func areDifferent[T any, K comparable](list []T, keyOf func(T) K) bool {
	keys := map[K]bool{}
	for _, x := range list {
		keys[keyOf(x)] = true
	}
	return len(keys) == len(list)
}

// inserted returns a list with one element more at an index.
func inserted[T any](list []T, at int, x T) []T {
	// With no room behind the index, nothing of the list is written over.
	before := append(list[:at:at], x)
	return append(before, list[at:]...)
}

// copied returns a list in memory of its own.
func copied[T any](list []T) []T {
	own := make([]T, len(list))
	copy(own, list)
	return own
}
