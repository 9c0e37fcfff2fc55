package swap_test

import (
	"cmp"
	"fmt"
	"iter"
	"math"
	"math/rand/v2"
	"reflect"
	"slices"
	"sync"
	"testing"

	"peavey/api"
	"peavey/swap"
)

// The definitions of the chapter, word for word, with nothing that the package computes.

// paid is what all debts to a mill sum up to, less what all debts from it do.
func paid(debts []api.SwapDebt, mill int) int64 {
	var to, from int64
	for _, d := range debts {
		if d.To == mill {
			to += d.Sum
		}
		if d.From == mill {
			from += d.Sum
		}
	}
	return to - from
}

// balancesOf returns the balance of each mill.
func balancesOf(b api.SwapBook) []int64 {
	var l []int64
	for mill := range b.Mills {
		l = append(l, paid(b.Debts, mill))
	}
	return l
}

// has reports whether a mill is in a set.
func has(set, mill int) bool { return set>>mill&1 == 1 }

// isEven reports whether the balances of the mills of a set sum up to 0.
func isEven(b api.SwapBook, set int) bool {
	var sum int64
	for mill, balance := range balancesOf(b) {
		if has(set, mill) {
			sum += balance
		}
	}
	return sum == 0
}

// evenOf reports for each set whether it is even.
func evenOf(b api.SwapBook) []bool {
	balances := balancesOf(b)
	even := make([]bool, 1<<b.Mills)
	for set := range even {
		var sum int64
		for mill, balance := range balances {
			if has(set, mill) {
				sum += balance
			}
		}
		even[set] = sum == 0
	}
	return even
}

// settles reports whether drafts settle a book.
func settles(b api.SwapBook, drafts []api.SwapDebt) bool {
	for mill, balance := range balancesOf(b) {
		if -paid(drafts, mill) != -balance {
			return false
		}
	}
	return true
}

// canSettle reports whether at most so many drafts can settle balances. Drafts of more than what is owed in all do not help.
func canSettle(balances []int64, many int) bool {
	var most int64
	open := 0
	for _, balance := range balances {
		most += max(balance, 0)
		if balance != 0 {
			open++
		}
	}
	if open == 0 || open > 2*many {
		return open == 0
	}
	for from := range balances {
		for to := range balances {
			for sum := int64(1); sum <= most && from != to; sum++ {
				rest := slices.Clone(balances)
				rest[from] += sum
				rest[to] -= sum
				if canSettle(rest, many-1) {
					return true
				}
			}
		}
	}
	return false
}

// divisions yields all lists of sets so that each of so many mills is in just one of them.
func divisions(mills int) iter.Seq[[]int] {
	return func(yield func([]int) bool) { divide(nil, 0, mills, yield) }
}

func divide(sets []int, mill, mills int, yield func([]int) bool) bool {
	if mill == mills {
		return yield(sets)
	}
	for i := range sets {
		sets[i] |= 1 << mill
		if !divide(sets, mill+1, mills, yield) {
			return false
		}
		sets[i] &^= 1 << mill
	}
	return divide(append(sets, 1<<mill), mill+1, mills, yield)
}

// mostApart returns for each even set as how many groups all mills can be, none of which has mills both of the set and of the others; 0 for other sets.
func mostApart(b api.SwapBook) []int {
	even := evenOf(b)
	most := make([]int, len(even))
	for groups := range divisions(b.Mills) {
		if slices.ContainsFunc(groups, func(group int) bool { return !even[group] }) {
			continue
		}
		// The sets that these groups leave apart are those of some of them.
		for some := range 1 << len(groups) {
			set := 0
			for i, group := range groups {
				if has(some, i) {
					set |= group
				}
			}
			most[set] = max(most[set], len(groups))
		}
	}
	return most
}

// areGroups reports whether sets of at least one mill are groups.
func areGroups(b api.SwapBook, sets []int) bool {
	for mill := range b.Mills {
		in := 0
		for _, set := range sets {
			if has(set, mill) {
				in++
			}
		}
		if in != 1 {
			return false
		}
	}
	return !slices.ContainsFunc(sets, func(set int) bool { return !isEven(b, set) })
}

// areRight reports whether prices are right.
func areRight(even []bool, prices []int) bool {
	for set, price := range prices {
		for mill := 0; 1<<mill < len(prices); mill++ {
			if has(set, mill) {
				continue
			}
			with := set | 1<<mill
			if prices[with] < price || even[with] && prices[with] < price+1 {
				return false
			}
		}
	}
	return prices[0] == 0
}

// fewestRound returns the fewest mills of a circle, 0 if there is none, from all ways that go on from some mills.
func fewestRound(b api.SwapBook, way []int) int {
	fewest := 0
	add := func(many int) {
		if fewest == 0 || many > 0 && many < fewest {
			fewest = many
		}
	}
	if isCircle(b, way) {
		add(len(way))
	}
	for next := range b.Mills {
		if len(way) == 0 || !slices.Contains(way, next) && owed(b, way[len(way)-1], next) > 0 {
			add(fewestRound(b, append(slices.Clone(way), next)))
		}
	}
	return fewest
}

// fewestSteps returns the fewest debts by which one comes from a mill back to it, 0 if there are none: which mills are as many debts on, step by step.
func fewestSteps(b api.SwapBook) int {
	least := 0
	for start := range b.Mills {
		at := 1 << start
		for step := 1; step <= b.Mills; step++ {
			next := 0
			for _, d := range b.Debts {
				if has(at, d.From) {
					next |= 1 << d.To
				}
			}
			at = next
			if has(at, start) && (least == 0 || step < least) {
				least = step
			}
		}
	}
	return least
}

// Books to test.

// sumsOf yields all lists of so many numbers from 0 to most.
func sumsOf(many int, most int64) iter.Seq[[]int64] {
	return func(yield func([]int64) bool) {
		l := make([]int64, many)
		for {
			if !yield(slices.Clone(l)) {
				return
			}
			i := slices.IndexFunc(l, func(x int64) bool { return x < most })
			if i < 0 {
				return
			}
			l[i]++
			clear(l[:i])
		}
	}
}

// every yields all books of so many mills with debts of up to most.
func every(mills int, most int64) iter.Seq[api.SwapBook] {
	return func(yield func(api.SwapBook) bool) {
		for l := range sumsOf(mills*(mills-1), most) {
			b := pairs(mills, len(l), 1)
			for i := range b.Debts {
				b.Debts[i].Sum = l[i]
			}
			b.Debts = slices.DeleteFunc(b.Debts, func(d api.SwapDebt) bool { return d.Sum == 0 })
			if !yield(b) {
				return
			}
		}
	}
}

// shuffled returns a book with its debts in another order.
func shuffled(r *rand.Rand, b api.SwapBook) api.SwapBook {
	b.Debts = slices.Clone(b.Debts)
	r.Shuffle(len(b.Debts), func(i, j int) { b.Debts[i], b.Debts[j] = b.Debts[j], b.Debts[i] })
	return b
}

// random yields so many books of least to most mills with up to so many debts.
func random(seed uint64, many, least, most, debts int) iter.Seq[api.SwapBook] {
	return func(yield func(api.SwapBook) bool) {
		r := rand.New(rand.NewPCG(seed, 8))
		for range many {
			mills := least + r.IntN(most-least+1)
			b := shuffled(r, pairs(mills, 90, 1))
			b.Debts = b.Debts[:min(len(b.Debts), r.IntN(debts+1))]
			// Few different sums, so that sets are often even.
			greatest := sums(1, 2, 5, 1000000)[r.IntN(4)]
			for i := range b.Debts {
				b.Debts[i].Sum = 1 + r.Int64N(greatest)
			}
			if !yield(b) {
				return
			}
		}
	}
}

// divided yields so many books of least to most mills that are in several groups at random.
func divided(seed uint64, many, least, most int) iter.Seq[api.SwapBook] {
	return func(yield func(api.SwapBook) bool) {
		r := rand.New(rand.NewPCG(seed, 8))
		for range many {
			mills := least + r.IntN(most-least+1)
			members := make([][]int, 1+r.IntN(mills))
			for mill := range mills {
				in := r.IntN(len(members))
				members[in] = append(members[in], mill)
			}
			greatest := sums(3, 20, 50000)[r.IntN(3)]
			balances := make([]int64, mills)
			for _, group := range members {
				for i := 1; i < len(group); i++ {
					balances[group[i]] = r.Int64N(2*greatest+1) - greatest
					balances[group[0]] -= balances[group[i]]
				}
			}
			if !yield(shuffled(r, chain(balances...))) {
				return
			}
		}
	}
}

// all yields the books of several sources.
func all(sources ...iter.Seq[api.SwapBook]) iter.Seq[api.SwapBook] {
	return func(yield func(api.SwapBook) bool) {
		for _, source := range sources {
			for b := range source {
				if !yield(b) {
					return
				}
			}
		}
	}
}

// tiny yields all books of up to three mills with debts of up to 2, and all of four mills with debts of 1.
func tiny() iter.Seq[api.SwapBook] {
	return all(every(1, 2), every(2, 2), every(3, 2), every(4, 1))
}

// small yields all tiny books, and some of up to seven mills.
func small() iter.Seq[api.SwapBook] {
	return all(tiny(), random(1, 300, 2, 6, 12), random(2, 100, 5, 7, 40), divided(3, 200, 4, 7))
}

// large yields the books that are known, and some of up to ten mills.
func large() iter.Seq[api.SwapBook] {
	known := func(yield func(api.SwapBook) bool) {
		for _, x := range books() {
			if !yield(x.b) {
				return
			}
		}
	}
	return all(known, random(4, 100, 1, 10, 15), random(5, 60, 8, 10, 40), divided(6, 100, 8, 10))
}

// The functions, for arguments that are right.

func must[T any](t *testing.T, x T, e api.Errno) T {
	t.Helper()
	if e != api.OK {
		t.Fatalf("error %d", e)
	}
	return x
}

func balances(t *testing.T, b api.SwapBook) []int64 {
	t.Helper()
	x, e := swap.Balances(b)
	return must(t, x, e)
}

func drafts(t *testing.T, b api.SwapBook) []api.SwapDebt {
	t.Helper()
	x, e := swap.Drafts(b)
	return must(t, x, e)
}

func fewest(t *testing.T, b api.SwapBook) int {
	t.Helper()
	x, e := swap.Fewest(b)
	return must(t, x, e)
}

func groups(t *testing.T, b api.SwapBook) []int {
	t.Helper()
	x, e := swap.Groups(b)
	return must(t, x, e)
}

func prices(t *testing.T, b api.SwapBook) []int {
	t.Helper()
	x, e := swap.Prices(b)
	return must(t, x, e)
}

func apart(t *testing.T, b api.SwapBook, set int) int {
	t.Helper()
	x, e := swap.Apart(b, set)
	return must(t, x, e)
}

func plain(t *testing.T, b api.SwapBook) api.SwapBook {
	t.Helper()
	x, e := swap.Plain(b)
	return must(t, x, e)
}

// Each function against its definition.

func TestBalancesAgainstDefinition(t *testing.T) { // P8.1
	for b := range all(small(), large()) {
		if e := swap.CheckBook(b); e != api.OK {
			t.Fatalf("CheckBook(%v) = %d", b, e)
		}
		if got, want := balances(t, b), balancesOf(b); !slices.Equal(got, want) {
			t.Fatalf("Balances(%v) = %v, want %v", b, got, want)
		}
	}
}

func TestCheckDraftsAgainstDefinition(t *testing.T) { // P8.2
	r := rand.New(rand.NewPCG(82, 8))
	right := 0
	for b := range all(small(), large()) {
		for range 5 {
			l := drafts(t, b)
			for b.Mills > 1 && len(l) < api.MaxSwapMills && r.IntN(3) > 0 {
				l = append(l, debt(0, 1+r.IntN(b.Mills-1), 1+r.Int64N(3)))
				if back := l[len(l)-1]; len(l) < api.MaxSwapMills && r.IntN(2) == 0 {
					l = append(l, debt(back.To, back.From, back.Sum))
				}
			}
			if len(l) > 0 && r.IntN(4) == 0 {
				i := r.IntN(len(l))
				l = slices.Delete(l, i, i+1)
			}
			want := api.OK
			if !settles(b, l) {
				want = api.ErrSum
			} else {
				right++
			}
			if e := swap.CheckDrafts(b, l); e != want {
				t.Fatalf("CheckDrafts(%v, %v) = %d, want %d", b, l, e, want)
			}
		}
	}
	if right < 1000 {
		t.Errorf("only %d drafts settle", right)
	}
}

// isDraft reports whether a draft is one of some mills.
func isDraft(mills int, d api.SwapDebt) bool {
	return 0 <= d.From && d.From < mills && 0 <= d.To && d.To < mills && d.From != d.To && 1 <= d.Sum && d.Sum <= 40000000
}

func TestDraftsAgainstDefinition(t *testing.T) { // P8.3, G8
	for b := range all(small(), large()) {
		l := drafts(t, b)
		if !settles(b, l) || len(l) > 10 || slices.ContainsFunc(l, func(d api.SwapDebt) bool { return !isDraft(b.Mills, d) }) {
			t.Fatalf("Drafts(%v) = %v: they do not settle it", b, l)
		}
		if e := swap.CheckDrafts(b, l); e != api.OK {
			t.Fatalf("CheckDrafts(%v, %v) = %d", b, l, e)
		}
		if n := fewest(t, b); n != len(l) {
			t.Fatalf("Drafts(%v) = %v, Fewest %d", b, l, n)
		}
	}
	for b := range all(tiny(), random(7, 40, 4, 5, 8)) {
		var total int64
		for _, balance := range balancesOf(b) {
			total += max(balance, 0)
		}
		if n := fewest(t, b); total <= 8 && n > 0 && canSettle(balancesOf(b), n-1) {
			t.Fatalf("Fewest(%v) = %d, but fewer drafts can settle it", b, n)
		}
	}
}

// checkMost checks that Groups, Fewest and Prices tell how many groups of a book there can be at most.
func checkMost(t *testing.T, b api.SwapBook, most int) {
	t.Helper()
	l := groups(t, b)
	if !areGroups(b, l) || !slices.IsSorted(l) || len(l) != most {
		t.Fatalf("Groups(%v) = %v, want %d", b, l, most)
	}
	if n, e := swap.CheckGroups(b, l); n != most || e != api.OK {
		t.Fatalf("CheckGroups(%v, %v) = %d, %d, want %d", b, l, n, e, most)
	}
	if n := fewest(t, b); n != b.Mills-most {
		t.Fatalf("Fewest(%v) = %d, want %d", b, n, b.Mills-most)
	}
	p := prices(t, b)
	if len(p) != 1<<b.Mills || !areRight(evenOf(b), p) || slices.Min(p) < 0 || slices.Max(p) > 10 || p[len(p)-1] != most {
		t.Fatalf("Prices(%v) = %v, want %d", b, p, most)
	}
	if n, e := swap.CheckPrices(b, p); n != most || e != api.OK {
		t.Fatalf("CheckPrices(%v, %v) = %d, %d, want %d", b, p, n, e, most)
	}
}

func TestGroupsAndApartAgainstDefinition(t *testing.T) { // P8.3, P8.4, P8.5, P8.6, P8.8, P8.9
	for b := range all(small(), random(8, 10, 8, 8, 20), divided(9, 20, 8, 9)) {
		even, most := evenOf(b), mostApart(b)
		checkMost(t, b, most[0])
		for set := range most {
			n, e := swap.Apart(b, set)
			switch {
			case set == 0:
				answers{t, b}.ofSet(set, api.ErrRange)
			case !even[set]:
				answers{t, b}.ofSet(set, api.ErrSum)
			case n != most[0]-most[set] || e != api.OK:
				t.Fatalf("Apart(%v, %d) = %d, %d, want %d", b, set, n, e, most[0]-most[set])
			}
		}
	}
	for b := range all(random(10, 3, 10, 10, 40), divided(11, 6, 10, 10)) {
		checkMost(t, b, mostApart(b)[0])
	}
}

// errorOfGroups returns what CheckGroups does for a valid book.
func errorOfGroups(b api.SwapBook, sets []int) api.Errno {
	if len(sets) > b.Mills {
		return api.ErrMany
	}
	union, together := 0, 0
	for _, set := range sets {
		if set < 1 || set > 1<<b.Mills-1 {
			return api.ErrRange
		}
		union |= set
		together += set
	}
	// The numbers of sets without a mill in common sum up to the number of their union.
	if union != 1<<b.Mills-1 || together != union {
		return api.ErrRule
	}
	if !areGroups(b, sets) {
		return api.ErrSum
	}
	return api.OK
}

// compareGroups checks that CheckGroups returns what it should for a valid book.
func compareGroups(t *testing.T, b api.SwapBook, sets []int) {
	t.Helper()
	want, n := errorOfGroups(b, sets), 0
	if want == api.OK {
		n = len(sets)
	}
	if got, e := swap.CheckGroups(b, sets); got != n || e != want {
		t.Fatalf("CheckGroups(%v, %v) = %d, %d, want %d, %d", b, sets, got, e, n, want)
	}
}

func TestCheckGroupsAgainstDefinition(t *testing.T) { // P8.4
	at := 0
	for b := range all(every(1, 2), every(2, 2), every(3, 2)) {
		// Some of the books of three mills are enough.
		if at++; b.Mills == 3 && at%40 > 0 {
			continue
		}
		for many := range b.Mills + 2 {
			for l := range sumsOf(many, int64(1<<b.Mills+1)) {
				var sets []int
				for _, x := range l {
					sets = append(sets, int(x)-1)
				}
				compareGroups(t, b, sets)
			}
		}
	}
	r := rand.New(rand.NewPCG(84, 8))
	for b := range all(small(), large()) {
		for range 20 {
			// Groups of the book, some of them together, with some other mistake.
			l := groups(t, b)
			for len(l) > 1 && r.IntN(2) == 0 {
				l[0] |= l[len(l)-1]
				l = l[:len(l)-1]
			}
			r.Shuffle(len(l), func(i, j int) { l[i], l[j] = l[j], l[i] })
			i, mill := r.IntN(len(l)), r.IntN(b.Mills)
			switch r.IntN(6) {
			case 0:
				l[i] ^= 1 << mill
			case 1:
				for j := range l {
					l[j] &^= 1 << mill
				}
				l[i] |= 1 << mill
			case 2:
				l = append(l, 1<<mill)
			case 3:
				l = slices.Delete(l, i, i+1)
			}
			compareGroups(t, b, l)
		}
	}
}

// comparePrices checks that CheckPrices returns what it should for prices, one for each set of a valid book.
func comparePrices(t *testing.T, b api.SwapBook, even []bool, p []int) {
	t.Helper()
	want, n := api.OK, 0
	switch {
	case slices.Min(p) < 0 || slices.Max(p) > 10:
		want = api.ErrRange
	case !areRight(even, p):
		want = api.ErrSum
	default:
		n = p[len(p)-1]
	}
	if got, e := swap.CheckPrices(b, p); got != n || e != want {
		t.Fatalf("CheckPrices(%v, %v) = %d, %d, want %d, %d", b, p, got, e, n, want)
	}
}

// raised returns right prices, as they grow from the least ones by so much at most for each set; nil if one would be above 10.
func raised(r *rand.Rand, even []bool, most int) []int {
	p := make([]int, len(even))
	for set := 1; set < len(p); set++ {
		for mill := 0; 1<<mill <= set; mill++ {
			if has(set, mill) {
				p[set] = max(p[set], p[set&^(1<<mill)])
			}
		}
		if even[set] {
			p[set]++
		}
		if r.IntN(3) == 0 {
			p[set] += r.IntN(most + 1)
		}
	}
	if slices.Max(p) > 10 {
		return nil
	}
	return p
}

func TestCheckPricesAgainstDefinition(t *testing.T) { // P8.5
	for b := range all(every(1, 2), every(2, 2)) {
		even := evenOf(b)
		for l := range sumsOf(1<<b.Mills, 12) {
			var p []int
			for _, x := range l {
				p = append(p, int(x)-1)
			}
			comparePrices(t, b, even, p)
		}
	}
	r := rand.New(rand.NewPCG(85, 8))
	for b := range all(small(), large()) {
		even, p := evenOf(b), prices(t, b)
		comparePrices(t, b, even, p)
		for range 6 {
			// One price that is lower or greater is often just too low, or makes another one so.
			q := raised(r, even, r.IntN(3))
			if q == nil || r.IntN(3) == 0 {
				q = slices.Clone(p)
			}
			comparePrices(t, b, even, q)
			q[r.IntN(len(q))] += 1 - 2*r.IntN(2)
			comparePrices(t, b, even, q)
		}
	}
}

func TestCircleAgainstDefinition(t *testing.T) { // P8.7
	check := func(b api.SwapBook, want int) {
		t.Helper()
		got, e := swap.Circle(b)
		switch {
		case want == 0:
			answers{t, b}.is("Circle", e, api.ErrNone, len(got) == 0)
		case !isCircle(b, got) || len(got) != want || e != api.OK:
			t.Fatalf("Circle(%v) = %v, %d, want %d mills", b, got, e, want)
		}
	}
	for b := range all(tiny(), random(12, 200, 2, 6, 9)) {
		check(b, fewestRound(b, nil))
	}
	for b := range all(small(), large(), random(13, 300, 7, 10, 14)) {
		check(b, fewestSteps(b))
	}
}

// total returns what is owed in all.
func total(b api.SwapBook) int64 {
	var sum int64
	for _, d := range b.Debts {
		sum += d.Sum
	}
	return sum
}

// byMills compares debts by From, and then by To.
func byMills(one, two api.SwapDebt) int {
	return cmp.Or(cmp.Compare(one.From, two.From), cmp.Compare(one.To, two.To))
}

func TestPlainAgainstDefinition(t *testing.T) { // P8.7, P8.14
	for b := range all(small(), large(), random(14, 300, 7, 10, 14)) {
		p := plain(t, b)
		if p.Mills != b.Mills || !slices.Equal(balancesOf(p), balancesOf(b)) || fewestSteps(p) != 0 {
			t.Fatalf("Plain(%v) = %v: not plain, or with other mills or balances", b, p)
		}
		for i, d := range p.Debts {
			if d.Sum < 1 || d.Sum > owed(b, d.From, d.To) || i > 0 && byMills(p.Debts[i-1], d) >= 0 {
				t.Fatalf("Plain(%v) = %v: the debt %v is none of the book, or not in order", b, p, d)
			}
		}
		if len(p.Debts) > len(b.Debts) || total(p) > total(b) {
			t.Fatalf("Plain(%v) = %v: more is owed", b, p)
		}
		_, e := swap.Circle(b)
		if (e == api.OK) != (total(p) < total(b)) || (e == api.ErrNone) != (total(p) == total(b)) {
			t.Fatalf("Plain(%v) = %v, but Circle: error %d", b, p, e)
		}
		if q := plain(t, p); !reflect.DeepEqual(q, p) {
			t.Fatalf("Plain(%v) = %v", p, q)
		}
		if e == api.ErrNone && !slices.Equal(p.Debts, slices.SortedFunc(slices.Values(b.Debts), byMills)) {
			t.Fatalf("Plain(%v) = %v: it is plain", b, p)
		}
	}
}

// The properties.

func TestNeverMoreThanPrices(t *testing.T) { // P8.8, G8
	r := rand.New(rand.NewPCG(88, 8))
	for b := range all(every(3, 2), random(15, 200, 2, 5, 8), divided(16, 100, 3, 6)) {
		even := evenOf(b)
		least := api.MaxSwapMills
		for range 10 {
			p := raised(r, even, r.IntN(2))
			if p == nil {
				continue
			}
			n, e := swap.CheckPrices(b, p)
			if e != api.OK {
				t.Fatalf("CheckPrices(%v, %v) = %d, %d", b, p, n, e)
			}
			least = min(least, n)
		}
		n, e := swap.CheckPrices(b, prices(t, b))
		least = min(least, must(t, n, e))
		for l := range divisions(b.Mills) {
			if n, e := swap.CheckGroups(b, l); e == api.OK && n > least {
				t.Fatalf("%v has the groups %v, but right prices say %d", b, l, least)
			}
		}
	}
	for b := range large() {
		n, e := swap.CheckPrices(b, prices(t, b))
		if m := len(groups(t, b)); must(t, n, e) != m {
			t.Fatalf("%v: %d groups, but prices say %d", b, m, n)
		}
	}
}

func TestMillsLessGroups(t *testing.T) { // P8.9
	for b := range all(small(), large()) {
		if d, g := drafts(t, b), groups(t, b); len(d) != b.Mills-len(g) || fewest(t, b) != len(d) {
			t.Fatalf("%v: drafts %v, groups %v, fewest %d", b, d, g, fewest(t, b))
		}
	}
}

// joined returns one book with the mills of two; those of the second one come after the others.
func joined(one, two api.SwapBook) api.SwapBook {
	b := api.SwapBook{Mills: one.Mills + two.Mills, Debts: slices.Clone(one.Debts)}
	for _, d := range two.Debts {
		b.Debts = append(b.Debts, debt(one.Mills+d.From, one.Mills+d.To, d.Sum))
	}
	return b
}

func TestJoined(t *testing.T) { // P8.10
	for one := range random(17, 30, 1, 5, 20) {
		for two := range all(random(18, 15, 1, 5, 20), divided(19, 15, 2, 5)) {
			if n, m := fewest(t, joined(one, two)), fewest(t, one)+fewest(t, two); n > m {
				t.Fatalf("%v and %v: %d drafts together, %d alone", one, two, n, m)
			}
		}
	}
}

func TestOneMoreDebt(t *testing.T) { // P8.10
	r := rand.New(rand.NewPCG(810, 8))
	for b := range all(every(3, 2), random(20, 200, 2, 7, 20), large()) {
		before := fewest(t, b)
		for _, d := range pairs(b.Mills, 90, 1).Debts {
			if owed(b, d.From, d.To) > 0 || len(b.Debts) == api.MaxSwapDebts {
				continue
			}
			d.Sum = 1 + r.Int64N(sums(2, 5, 1000000)[r.IntN(3)])
			more := api.SwapBook{Mills: b.Mills, Debts: append(slices.Clone(b.Debts), d)}
			if after := fewest(t, more); after > before+1 || after < before-1 {
				t.Fatalf("Fewest(%v) = %d, with the debt %v %d", b, before, d, after)
			}
		}
	}
}

func TestSetsApart(t *testing.T) { // P8.11
	for b := range all(small(), large()) {
		l, everyMill := groups(t, b), 1<<b.Mills-1
		// Of a book with many even sets some are enough.
		step := 1
		if b.Mills > 7 {
			step = 37
		}
		for some := 1; some < 1<<len(l); some += step {
			set := 0
			for i, group := range l {
				if has(some, i) {
					set |= group
				}
			}
			if n := apart(t, b, set); n != 0 {
				t.Fatalf("Apart(%v, %d) = %d, but Groups %v", b, set, n, l)
			}
		}
		if n := apart(t, b, everyMill); n != 0 {
			t.Fatalf("Apart(%v, %d) = %d", b, everyMill, n)
		}
		for set := 1; set < everyMill; set += step {
			n, e := swap.Apart(b, set)
			if m, f := swap.Apart(b, everyMill-set); n != m || e != f || n < 0 {
				t.Fatalf("Apart(%v, %d) = %d, %d, of the other mills %d, %d", b, set, n, e, m, f)
			}
		}
	}
}

// changed returns a book of which each debt is changed.
func changed(b api.SwapBook, change func(api.SwapDebt) api.SwapDebt) api.SwapBook {
	b.Debts = changedDebts(b.Debts, change)
	return b
}

func changedDebts(debts []api.SwapDebt, change func(api.SwapDebt) api.SwapDebt) []api.SwapDebt {
	var l []api.SwapDebt
	for _, d := range debts {
		l = append(l, change(d))
	}
	return l
}

func TestTimes(t *testing.T) { // P8.12
	r := rand.New(rand.NewPCG(812, 8))
	for b := range all(small(), large()) {
		most := int64(1000000)
		for _, d := range b.Debts {
			most = min(most, 1000000/d.Sum)
		}
		for _, times := range sums(min(2, most), most, 1+r.Int64N(most)) {
			multiply := func(d api.SwapDebt) api.SwapDebt { return debt(d.From, d.To, d.Sum*times) }
			great := changed(b, multiply)
			if n, m := fewest(t, b), fewest(t, great); n != m {
				t.Fatalf("Fewest(%v) = %d, of %v %d", b, n, great, m)
			}
			if e := swap.CheckDrafts(great, changedDebts(drafts(t, b), multiply)); e != api.OK {
				t.Fatalf("the drafts of %v, %d times as great, for %v: error %d", b, times, great, e)
			}
		}
	}
}

func TestTurnedRound(t *testing.T) { // P8.12
	turn := func(d api.SwapDebt) api.SwapDebt { return debt(d.To, d.From, d.Sum) }
	for b := range all(small(), large()) {
		round := changed(b, turn)
		if n, m := fewest(t, b), fewest(t, round); n != m {
			t.Fatalf("Fewest(%v) = %d, turned round %d", b, n, m)
		}
		one, two := balances(t, b), balances(t, round)
		for mill := range one {
			if one[mill] != -two[mill] {
				t.Fatalf("Balances(%v) = %v, turned round %v", b, one, two)
			}
		}
		if e := swap.CheckDrafts(round, changedDebts(drafts(t, b), turn)); e != api.OK {
			t.Fatalf("the drafts of %v, turned round, for %v: error %d", b, round, e)
		}
	}
}

func TestNamedOtherwise(t *testing.T) { // P8.13
	r := rand.New(rand.NewPCG(813, 8))
	for b := range all(small(), large()) {
		names := r.Perm(b.Mills)
		other := shuffled(r, changed(b, func(d api.SwapDebt) api.SwapDebt { return debt(names[d.From], names[d.To], d.Sum) }))
		if n, m := fewest(t, b), fewest(t, other); n != m {
			t.Fatalf("Fewest(%v) = %d, of %v %d", b, n, other, m)
		}
		one, two := balances(t, b), balances(t, other)
		for mill, name := range names {
			if one[mill] != two[name] {
				t.Fatalf("Balances(%v) = %v, of %v with the names %v %v", b, one, other, names, two)
			}
		}
	}
}

// The rules of DOC.md.

// call is a book with what functions take beside it.
type call struct {
	b      api.SwapBook
	drafts []api.SwapDebt
	groups []int
	prices []int
	set    int
}

// calls returns for each book that is known what is right beside it.
func calls(t *testing.T) []call {
	t.Helper()
	var l []call
	for _, x := range books() {
		l = append(l, call{x.b, drafts(t, x.b), groups(t, x.b), prices(t, x.b), groups(t, x.b)[0]})
	}
	return l
}

// copied returns a call that shares no memory with another one.
func copied(c call) call {
	c.b.Debts = slices.Clone(c.b.Debts)
	return call{c.b, slices.Clone(c.drafts), slices.Clone(c.groups), slices.Clone(c.prices), c.set}
}

// results returns what all functions return for these arguments.
func results(c call) []any {
	var out []any
	add := func(x ...any) { out = append(out, x...) }
	add(swap.CheckBook(c.b))
	balances, e := swap.Balances(c.b)
	add(balances, e)
	add(swap.CheckDrafts(c.b, c.drafts))
	drafts, e := swap.Drafts(c.b)
	add(drafts, e)
	n, e := swap.Fewest(c.b)
	add(n, e)
	n, e = swap.CheckGroups(c.b, c.groups)
	add(n, e)
	groups, e := swap.Groups(c.b)
	add(groups, e)
	n, e = swap.CheckPrices(c.b, c.prices)
	add(n, e)
	prices, e := swap.Prices(c.b)
	add(prices, e)
	n, e = swap.Apart(c.b, c.set)
	add(n, e)
	circle, e := swap.Circle(c.b)
	add(circle, e)
	plain, e := swap.Plain(c.b)
	add(plain, e)
	return out
}

// overwrite writes something over all that a list reaches.
func overwrite[T any](l []T, x T) {
	for i := range l[:cap(l)] {
		l[:cap(l)][i] = x
	}
}

// overwriteAll writes over all that results reach.
func overwriteAll(results []any) {
	for _, x := range results {
		switch x := x.(type) {
		case []int:
			overwrite(x, -9)
		case []int64:
			overwrite(x, -9)
		case []api.SwapDebt:
			overwrite(x, debt(-9, -9, -9))
		case api.SwapBook:
			overwrite(x.Debts, debt(-9, -9, -9))
		}
	}
}

func TestNothingSharedNorChanged(t *testing.T) { // R4, R9, R10
	for _, x := range calls(t) {
		c := copied(x)
		want := results(c)
		told := fmt.Sprint(want)
		overwriteAll(results(c))
		if !reflect.DeepEqual(c, copied(x)) {
			t.Errorf("arguments are changed: %v, not %v", c, x)
		}
		results(call{bookB(), debts(0, 1, 20), list(3, 24), list(0, 1), 1})
		results(call{})
		for range 3 {
			if got := results(c); !reflect.DeepEqual(got, want) {
				t.Fatalf("another result: %v, not %v", got, want)
			}
		}
		// What is done with arguments changes no result.
		overwrite(c.b.Debts, debt(-9, -9, -9))
		overwrite(c.drafts, debt(-9, -9, -9))
		overwrite(c.groups, -9)
		overwrite(c.prices, -9)
		if now := fmt.Sprint(want); now != told {
			t.Errorf("%s became %s", told, now)
		}
	}
}

// room returns a list with something behind its end.
func room[T any](l []T, behind T) []T {
	return append(slices.Clone(l), behind, behind, behind)[:len(l)]
}

// isBehind reports whether what room put behind the end of a list is still there.
func isBehind[T comparable](l []T, behind T) bool {
	return slices.Equal(l[len(l):len(l)+3], again(3, behind))
}

// What is behind the end of a list that is an argument is neither read nor written.
func TestBehindTheEnd(t *testing.T) { // R4
	for _, x := range calls(t) {
		c := copied(x)
		c.b.Debts, c.drafts = room(c.b.Debts, debt(1, 0, 77)), room(c.drafts, debt(0, 1, 7))
		c.groups, c.prices = room(c.groups, 1), room(c.prices, 99)
		want := results(x)
		if got := results(c); !reflect.DeepEqual(got, want) {
			t.Errorf("%v: %v, with other things behind the ends %v", x, want, got)
		}
		if !isBehind(c.b.Debts, debt(1, 0, 77)) || !isBehind(c.drafts, debt(0, 1, 7)) || !isBehind(c.groups, 1) || !isBehind(c.prices, 99) {
			t.Errorf("%v: what is behind the ends is changed", x)
		}
	}
}

func TestAllAtOnce(t *testing.T) { // R9, R10
	var group sync.WaitGroup
	for _, x := range calls(t) {
		group.Go(func() {
			want := results(x)
			for range 3 {
				if got := results(x); !reflect.DeepEqual(got, want) {
					t.Errorf("another result: %v, not %v", got, want)
				}
			}
		})
	}
	group.Wait()
}

func TestNilIsEmpty(t *testing.T) { // R3
	for _, mills := range list(0, 1, 2, 10, 11) {
		none := call{b: api.SwapBook{Mills: mills}, set: 1}
		empty := call{api.SwapBook{Mills: mills, Debts: []api.SwapDebt{}}, []api.SwapDebt{}, []int{}, []int{}, 1}
		// Printed, nil and an empty list are the same.
		if one, two := fmt.Sprint(results(none)), fmt.Sprint(results(empty)); one != two {
			t.Errorf("%s with nil, %s with empty lists", one, two)
		}
	}
	if one, two := fmt.Sprint(results(call{b: bookB()})), fmt.Sprint(results(call{bookB(), []api.SwapDebt{}, []int{}, []int{}, 0})); one != two {
		t.Errorf("%s with nil, %s with empty lists", one, two)
	}
}

// errorOfDebts returns ErrArg or ErrRange for debts of some mills, of sums of up to most.
func errorOfDebts(debts []api.SwapDebt, mills int, most int64) api.Errno {
	isMill := func(mill int) bool { return mill >= 0 && mill < mills }
	if slices.ContainsFunc(debts, func(d api.SwapDebt) bool { return !isMill(d.From) || !isMill(d.To) || d.From == d.To }) {
		return api.ErrArg
	}
	if slices.ContainsFunc(debts, func(d api.SwapDebt) bool { return d.Sum <= 0 || d.Sum > most }) {
		return api.ErrRange
	}
	return api.OK
}

// errorOfBook returns what CheckBook does.
func errorOfBook(b api.SwapBook) api.Errno {
	if b.Mills < 1 || b.Mills > 10 || len(b.Debts) > 40 {
		return api.ErrMany
	}
	if e := errorOfDebts(b.Debts, b.Mills, 1000000); e != api.OK {
		return e
	}
	for i, d := range b.Debts {
		for _, other := range b.Debts[:i] {
			if d.From == other.From && d.To == other.To {
				return api.ErrRule
			}
		}
	}
	return api.OK
}

// errorOfDrafts returns what CheckDrafts does for a valid book.
func errorOfDrafts(b api.SwapBook, drafts []api.SwapDebt) api.Errno {
	if len(drafts) > 10 {
		return api.ErrMany
	}
	if e := errorOfDebts(drafts, b.Mills, 40000000); e != api.OK {
		return e
	}
	if !settles(b, drafts) {
		return api.ErrSum
	}
	return api.OK
}

// odd returns a number that is often wrong.
func odd(r *rand.Rand) int {
	l := list(math.MinInt, math.MinInt+1, -1<<32, -1, 0, 1, 2, 3, 7, 9, 10, 11, 31, 40, 41, 1023, 1024, 1000000, 1000001, 40000000, 40000001, 1<<32, 1<<62, math.MaxInt-1, math.MaxInt)
	return l[r.IntN(len(l))]
}

// spoil changes some number of one of a list, if there is one, or makes the list longer.
func spoil(r *rand.Rand, l []api.SwapDebt) []api.SwapDebt {
	if len(l) == 0 || r.IntN(5) == 0 {
		return append(l, debt(odd(r), odd(r), int64(odd(r))))
	}
	d := &l[r.IntN(len(l))]
	switch r.IntN(4) {
	case 0:
		d.From = odd(r)
	case 1:
		d.To = odd(r)
	case 2:
		d.Sum = int64(odd(r))
	case 3:
		d.From, d.To = l[0].From, l[0].To
	}
	return l
}

func TestAnyArguments(t *testing.T) { // P1, R1, R2, R5
	r := rand.New(rand.NewPCG(81, 8))
	for b := range all(random(21, 3000, 1, 4, 12), random(22, 300, 5, 10, 40)) {
		c := call{b, drafts(t, b), groups(t, b), prices(t, b), r.IntN(1 << b.Mills)}
		for r.IntN(2) == 0 {
			c.b.Debts = spoil(r, c.b.Debts)
		}
		if r.IntN(8) == 0 {
			c.b.Mills = odd(r)
		}
		for r.IntN(2) == 0 {
			c.drafts = spoil(r, c.drafts)
		}
		for r.IntN(2) == 0 {
			c.groups = append(c.groups, odd(r))
		}
		if r.IntN(3) == 0 {
			c.groups[r.IntN(len(c.groups))] = odd(r)
		}
		switch r.IntN(4) {
		case 0:
			c.prices[r.IntN(len(c.prices))] = odd(r)
		case 1:
			c.prices = append(c.prices, odd(r))
		}
		if r.IntN(2) == 0 {
			c.set = odd(r)
		}
		got := results(c)
		c.check(t)
		if t.Failed() {
			t.Fatalf("%v: %v", c, got)
		}
	}
}

// check checks that all functions return the errors that they should, and beside them only zero values.
func (c call) check(t *testing.T) {
	t.Helper()
	a, valid := answers{t, c.b}, errorOfBook(c.b)
	a.is("CheckBook", swap.CheckBook(c.b), valid, true)
	if valid != api.OK {
		a.ofBook(valid)
		a.ofDrafts(c.drafts, valid)
		a.ofGroups(c.groups, valid)
		a.ofPrices(c.prices, valid)
		a.ofSet(c.set, valid)
		return
	}
	a.ofDrafts(c.drafts, errorOfDrafts(c.b, c.drafts))
	compareGroups(t, c.b, c.groups)
	if even := evenOf(c.b); len(c.prices) == len(even) {
		comparePrices(t, c.b, even, c.prices)
	} else {
		a.ofPrices(c.prices, api.ErrEqual)
	}
	switch {
	case c.set < 1 || c.set >= 1<<c.b.Mills:
		a.ofSet(c.set, api.ErrRange)
	case !isEven(c.b, c.set):
		a.ofSet(c.set, api.ErrSum)
	default:
		apart(t, c.b, c.set)
	}
}
