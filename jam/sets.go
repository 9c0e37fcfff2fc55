package jam

import (
	"iter"
	"math/bits"
	"slices"

	"peavey/api"
)

// set is a set of logs, whose bits they are.
type set uint16

const noLogs set = 0

// firstLogs returns the set of the first logs, so many.
func firstLogs(many int) set {
	return 1<<many - 1
}

// setOf returns the set of logs.
func setOf(logs []int) set {
	s := noLogs
	for _, log := range logs {
		s = s.with(log)
	}
	return s
}

func (s set) with(log int) set    { return s | 1<<log }
func (s set) without(log int) set { return s &^ (1 << log) }
func (s set) has(log int) bool    { return s != s.without(log) }
func (s set) lacks(log int) bool  { return !s.has(log) }
func (s set) holds(part set) bool { return s|part == s }
func (s set) size() int           { return bits.OnesCount16(uint16(s)) }

// logs yields the logs of a set, increasing.
func (s set) logs() iter.Seq[int] {
	return func(yield func(int) bool) {
		for log := range api.MaxJamLogs {
			if s.has(log) && !yield(log) {
				return
			}
		}
	}
}

// list returns the logs of a set, increasing.
func (s set) list() []int {
	var room [api.MaxJamLogs]int
	list := room[:0]
	for log := range s.logs() {
		list = append(list, log)
	}
	return copied(list)
}

// parts yields all sets of logs of a set, in the lexicographic order of their lists.
func (s set) parts() iter.Seq[set] {
	return func(yield func(set) bool) { grow(noLogs, s, yield) }
}

// grow yields a set, and what it becomes with some of other logs, which are later ones; it reports whether more are asked for.
func grow(s, others set, yield func(set) bool) bool {
	if !yield(s) {
		return false
	}
	later := others
	for log := range others.logs() {
		later = later.without(log)
		if !grow(s.with(log), later, yield) {
			return false
		}
	}
	return true
}

// lists returns the lists of the logs of sets.
func lists(sets []set) [][]int {
	var lists [][]int
	for _, s := range sets {
		lists = append(lists, s.list())
	}
	return lists
}

// copied returns a list in memory of its own.
func copied(list []int) []int {
	own := make([]int, len(list))
	copy(own, list)
	return own
}

// within reports whether all numbers are from lo to hi.
func within(lo, hi int, numbers ...int) bool {
	for _, n := range numbers {
		if n < lo || n > hi {
			return false
		}
	}
	return true
}

// strictlyIncreasing reports whether each number is greater than the one before it.
func strictlyIncreasing(list []int) bool {
	for i := 1; i < len(list); i++ {
		if list[i] <= list[i-1] {
			return false
		}
	}
	return true
}

// every reports whether all of a list are as is told.
func every[T any](list []T, told func(T) bool) bool {
	for _, x := range list {
		if !told(x) {
			return false
		}
	}
	return true
}

// only yields those of all that are meant.
func only[T any](all iter.Seq[T], meant func(T) bool) iter.Seq[T] {
	return func(yield func(T) bool) {
		for x := range all {
			if meant(x) && !yield(x) {
				return
			}
		}
	}
}

// pick returns those of a list that are meant, in its order.
func pick[T any](list []T, meant func(T) bool) []T {
	return slices.Collect(only(slices.Values(list), meant))
}

// tight returns those of a list that hold no other one, in its order.
func tight[T comparable](list []T, holds func(one, other T) bool) []T {
	return pick(list, func(one T) bool {
		return !slices.ContainsFunc(list, func(other T) bool { return other != one && holds(one, other) })
	})
}

// least returns those of a list that are the least, in its order.
func least[T any](list []T, much func(T) int) []T {
	var found []T
	for _, x := range list {
		if len(found) > 0 && much(x) < much(found[0]) {
			found = nil
		}
		if len(found) == 0 || much(x) == much(found[0]) {
			found = append(found, x)
		}
	}
	return found
}
