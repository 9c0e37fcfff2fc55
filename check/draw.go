package check

import (
	"iter"

	"peavey/api"
)

// isSample reports whether a list is strictly increasing logs of the boom.
func (b *bench) isSample(list []int) bool {
	least := 0
	for _, log := range list {
		if !within(least, b.All-1, log) {
			return false
		}
		least = log + 1
	}
	return true
}

// begun yields each log from one on, and how many samples of a size above 0 begin with it.
func (b *bench) begun(from, size int) iter.Seq2[int, int64] {
	return func(yield func(int, int64) bool) {
		b.behind.fill(b.All - from)
		for log := from; b.behind != none(); log++ {
			b.behind.remove()
			if !yield(log, b.behind[size-1]) {
				return
			}
		}
	}
}

// draw returns the sample of a size before which there are so many ones, if there is one.
func (b *bench) draw(size int, number int64) []int {
	var room [api.MaxCheckLogs]int
	sample := room[:0:size]
	next := 0
search:
	for left := size; left > 0; left-- {
		for log, samples := range b.begun(next, left) {
			if number < samples {
				sample = append(sample, log)
				next = log + 1
				continue search
			}
			number -= samples
		}
	}
	return copied(sample)
}

// number returns how many samples of its size come before a sample.
func (b *bench) number(sample []int) int64 {
	var number int64
	next := 0
	for place, log := range sample {
		for less, samples := range b.begun(next, len(sample)-place) {
			if less == log {
				break
			}
			number += samples
		}
		next = log + 1
	}
	return number
}
