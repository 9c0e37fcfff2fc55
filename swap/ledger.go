package swap

import "peavey/api"

// balances are what each mill gets on the whole, 0 for those that a book does not have.
type balances [api.MaxSwapMills]int64

// settled is the balances of mills without debts.
func settled() balances { return balances{} }

// owe changes balances by debts.
func (b *balances) owe(debts ...api.SwapDebt) {
	for _, d := range debts {
		b[d.From] -= d.Sum
		b[d.To] += d.Sum
	}
}

// pay changes balances by drafts.
func (b *balances) pay(drafts ...api.SwapDebt) {
	for _, d := range drafts {
		b[d.From] += d.Sum
		b[d.To] -= d.Sum
	}
}

// ledger is a book that is valid, with its balances, and what is owed from each mill to each other one.
type ledger struct {
	api.SwapBook
	balances balances
	owed     [api.MaxSwapMills][api.MaxSwapMills]int64
	marks    [api.MaxSwapMills]bool
	even     map[band]bool
}

// open returns the ledger of a book, or the error of the book.
func open(b api.SwapBook) (*ledger, api.Errno) {
	if e := CheckBook(b); e != api.OK {
		return nil, e
	}
	l := &ledger{SwapBook: b}
	l.balances.owe(b.Debts...)
	for _, d := range b.Debts {
		l.owed[d.From][d.To] = d.Sum
	}
	return l, api.OK
}

// openSets returns the ledger of a book with its even sets, or the error of the book.
func openSets(b api.SwapBook) (*ledger, api.Errno) {
	l, e := open(b)
	if e != api.OK {
		return nil, e
	}
	l.even = l.evenSets()
	return l, api.OK
}

// owes reports whether one mill owes another one something.
func (l *ledger) owes(from, to int) bool {
	return l.owed[from][to] > 0
}

// debts returns what is owed as debts, by From, and then by To.
func (l *ledger) debts() []api.SwapDebt {
	var room [api.MaxSwapDebts]api.SwapDebt
	debts := room[:0:len(l.Debts)]
	for from := range l.Mills {
		for to := range l.Mills {
			if l.owes(from, to) {
				debts = append(debts, api.SwapDebt{From: from, To: to, Sum: l.owed[from][to]})
			}
		}
	}
	return copied(debts)
}

// checkSums returns ErrArg if a debt, or a draft, is not from one mill to another one, and ErrRange if its sum is not from 1 to most.
func checkSums(debts []api.SwapDebt, mills int, most int64) api.Errno {
	areMills := func(d api.SwapDebt) bool { return within(0, mills-1, d.From, d.To) && d.From != d.To }
	isInRange := func(d api.SwapDebt) bool { return within(1, most, d.Sum) }
	switch {
	case !every(debts, areMills):
		return api.ErrArg
	case !every(debts, isInRange):
		return api.ErrRange
	}
	return api.OK
}

// areDifferent reports whether no two debts are from the same mill to the same other one.
func areDifferent(debts []api.SwapDebt) bool {
	var found [api.MaxSwapMills][api.MaxSwapMills]bool
	for _, d := range debts {
		if found[d.From][d.To] {
			return false
		}
		found[d.From][d.To] = true
	}
	return true
}
