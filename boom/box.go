package boom

import "iter"

// box is cells beside and above one another.
type box struct{ wide, high int }

// cells is how many cells a box has.
func (b box) cells() int {
	return b.wide * b.high
}

// sticks is how many sticks are around a box.
func (b box) sticks() int {
	return 2 * (b.wide + b.high)
}

// boxes yields all boxes up to one, the least wide first, of those that are as wide the least high.
func boxes(wide, high int) iter.Seq[box] {
	return func(yield func(box) bool) {
		for w := range wide {
			for h := range high {
				if !yield(box{w + 1, h + 1}) {
					return
				}
			}
		}
	}
}
