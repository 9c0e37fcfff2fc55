package mark

import (
	"cmp"
	"iter"
	"math/bits"
)

// within reports whether all numbers are from lo to hi.
func within(lo, hi int, numbers ...int) bool {
	for _, n := range numbers {
		if n < lo || n > hi {
			return false
		}
	}
	return true
}

// strictlyIncreasing reports whether each number is greater than the one before it.
func strictlyIncreasing(list []int) bool {
	for i := 1; i < len(list); i++ {
		if list[i] <= list[i-1] {
			return false
		}
	}
	return true
}

// count returns how many strokes a set has.
func count(set int) int {
	return bits.OnesCount(uint(set))
}

// contains reports whether all strokes of a part are in a set.
func contains(set, part int) bool {
	return part&^set == 0
}

// wornMarks yields what is left of a mark, whichever of its strokes are lost, at most so many.
func wornMarks(mark, most int) iter.Seq[int] {
	return func(yield func(int) bool) {
		for worn := mark; ; worn = (worn - 1) & mark {
			if count(mark&^worn) <= most && !yield(worn) {
				return
			}
			if worn == 0 {
				return
			}
		}
	}
}

// pick returns the numbers from lo to hi that are meant, increasing.
func pick(lo, hi int, meant func(int) bool) []int {
	var list []int
	for n := lo; n <= hi; n++ {
		if meant(n) {
			list = append(list, n)
		}
	}
	return list
}

// first returns the one of all that comes first in an order, and whether there is any.
func first[T any](all iter.Seq[T], order func(one, two T) int) (T, bool) {
	var best T
	found := false
	for x := range all {
		if !found || order(x, best) < 0 {
			best, found = x, true
		}
	}
	return best, found
}

// inOrder is the lexicographic order of pairs.
func inOrder(p, q pair) int {
	return cmp.Or(cmp.Compare(p.one, q.one), cmp.Compare(p.two, q.two))
}

// fewest is the order of sets by how many strokes they have, and then by their strokes, as increasing lists.
func fewest(one, two int) int {
	differ := one ^ two
	least := differ & -differ
	// Of two lists of equal length, the one that has the least stroke that only one has comes first.
	return cmp.Or(cmp.Compare(count(one), count(two)), cmp.Compare(two&least, one&least))
}
