package scale

import (
	"cmp"
	"iter"

	"peavey/api"
)

// within reports whether all numbers are from lo to hi.
func within[N int | int64](lo, hi N, numbers ...N) bool {
	for _, n := range numbers {
		if n < lo || n > hi {
			return false
		}
	}
	return true
}

// strictlyIncreasing reports whether each number is greater than the one before it.
func strictlyIncreasing(list []int) bool {
	for i := 1; i < len(list); i++ {
		if list[i] <= list[i-1] {
			return false
		}
	}
	return true
}

// oneAfterAnother reports whether no log begins before the end of the one before it.
func oneAfterAnother(logs []api.ScaleLog) bool {
	for i := 1; i < len(logs); i++ {
		if logs[i].From < logs[i-1].To {
			return false
		}
	}
	return true
}

// thickFirst is the order of numbers from the greatest to the least.
func thickFirst(one, two int64) int {
	return cmp.Compare(two, one)
}

// greatest returns the greatest worth of all that are let, 0 if none is.
func greatest[T any](all iter.Seq[T], let func(T) bool, worth func(T) int64) int64 {
	var most int64
	found := false
	for x := range all {
		if !let(x) {
			continue
		}
		if w := worth(x); !found || w > most {
			most, found = w, true
		}
	}
	return most
}
