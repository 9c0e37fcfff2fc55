package tally

// The weights of a tally: that too much is counted for it, or too little.
const (
	tooMuch   = -1
	tooLittle = 1
)

// bound returns the bound of weights.
func (b *book) bound(weights []int) int64 {
	var bound int64
	for t, r := range b.tallies {
		switch weights[t] {
		case tooLittle:
			bound += r.Lo
		case tooMuch:
			bound -= r.Hi
		}
	}
	for cell, r := range b.Cells {
		var weight int64
		for _, t := range b.talliesOf(cell) {
			weight += int64(weights[t])
		}
		// Of all numbers between both ends one of these is the least.
		bound += min(-weight*r.Lo, -weight*r.Hi)
	}
	return bound
}

// weights returns weights whose bound is by how much the table is wrong, if this is as little as can be. A tally weighs how much nearer the node is to which its link leads than the one from which it does; as each of both leads to the other one at a cost of at most 1, this is from -1 to 1.
func (b *book) weights() []int {
	isAny := func(link) bool { return true }
	ways := b.ways(node{kind: atRiver}, isAny)
	var room [mostTallies]int
	weights := room[:0:len(b.tallies)]
	for t := range b.tallies {
		l := b.tally(t)
		weights = append(weights, int(ways[l.from].cost-ways[l.to].cost))
	}
	return copied(weights)
}
