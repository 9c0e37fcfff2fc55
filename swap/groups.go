package swap

import (
	"cmp"
	"slices"

	"peavey/api"
)

// dearest returns the mill of a set without which the price of the set is the greatest.
func (l *ledger) dearest(set int, prices []int) int {
	return greatest(l.mills(set), func(one, two int) int {
		return cmp.Compare(prices[without(set, one)], prices[without(set, two)])
	})
}

// leastPrice returns the least price of a set of at least one mill, when the sets with a mill fewer have theirs.
func (l *ledger) leastPrice(set int, prices []int) int {
	least := prices[without(set, l.dearest(set, prices))]
	if l.isEven(set) {
		least++
	}
	return least
}

// prices returns the least right prices. That of a set is the most groups that some of its mills can make.
func (l *ledger) prices() []int {
	prices := make([]int, l.all()+1)
	for set := noMills + 1; set <= l.all(); set++ {
		prices[set] = l.leastPrice(set, prices)
	}
	return prices
}

// areRight reports whether prices of all sets are right.
func (l *ledger) areRight(prices []int) bool {
	for set := noMills + 1; set <= l.all(); set++ {
		if prices[set] < l.leastPrice(set, prices) {
			return false
		}
	}
	return prices[noMills] == 0
}

// groups returns as many groups as there can be, increasing. Mills leave one after another, so that what is left stays as dear as it can be; each time that it is even, those that have left since the last time are a group.
func (l *ledger) groups() []int {
	var room [api.MaxSwapMills]int
	groups, group := room[:0:l.Mills], noMills
	prices := l.prices()
	for left := l.all(); left != noMills; {
		mill := l.dearest(left, prices)
		left, group = without(left, mill), with(group, mill)
		if l.isEven(left) {
			groups, group = append(groups, group), noMills
		}
	}
	slices.Sort(groups)
	return copied(groups)
}

// drafts settles all groups, and returns the drafts.
func (l *ledger) drafts() []api.SwapDebt {
	var room [api.MaxSwapMills]api.SwapDebt
	drafts := room[:0:l.Mills]
	for _, group := range l.groups() {
		for d := l.nextDraft(group); d.Sum > 0; d = l.nextDraft(group) {
			l.balances.pay(d)
			drafts = append(drafts, d)
		}
	}
	return copied(drafts)
}

// nextDraft returns a draft of a group from the mill that owes most to the one that gets most, as great as it can be. So each draft settles a mill, and the last one settles two.
func (l *ledger) nextDraft(group int) api.SwapDebt {
	from := greatest(l.mills(group), func(one, two int) int { return cmp.Compare(l.balances[two], l.balances[one]) })
	to := greatest(l.mills(group), func(one, two int) int { return cmp.Compare(l.balances[one], l.balances[two]) })
	return api.SwapDebt{From: from, To: to, Sum: min(-l.balances[from], l.balances[to])}
}

// lostApart returns how many groups there are fewer if none has mills both of an even set and of the others.
func (l *ledger) lostApart(set int) int {
	prices := l.prices()
	return prices[l.all()] - prices[set] - prices[l.all()-set]
}
