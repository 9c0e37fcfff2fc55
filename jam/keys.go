package jam

import (
	"maps"
	"slices"
)

// stuck returns what stays by each set of keys of those that are let, but for the heaps that are freed: nothing holds them.
func (p *pile) stuck(let set) map[heap]set {
	stuck := map[heap]set{}
	for keys := range let.parts() {
		p.pull(keys)
		stuck[p.heap] = p.stays()
	}
	maps.DeleteFunc(stuck, func(_ heap, stays set) bool { return stays == noLogs })
	return stuck
}

// keys returns all keys that free the jam, in lexicographic order.
func (p *pile) keys() []set {
	stuck := p.stuck(p.all)
	return slices.Collect(only(p.all.parts(), func(keys set) bool {
		_, holds := stuck[heap{p.all, keys}]
		return !holds
	}))
}

// tightKeys returns all tight keys, in lexicographic order.
func (p *pile) tightKeys() []set {
	return tight(p.keys(), set.holds)
}

// fewestKeys returns all lists of the fewest keys, in lexicographic order.
func (p *pile) fewestKeys() []set {
	return least(p.keys(), set.size)
}

// fewestFor returns the fewest keys by which a log goes that is none of them; nothing if there are no such keys.
func (p *pile) fewestFor(log int) []set {
	others := p.all.without(log)
	stuck := p.stuck(others)
	return least(slices.Collect(only(others.parts(), func(keys set) bool {
		return stuck[heap{p.all, keys}].lacks(log)
	})), set.size)
}
