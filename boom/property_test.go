package boom_test

import (
	"fmt"
	"iter"
	"math"
	"math/bits"
	"math/rand/v2"
	"reflect"
	"slices"
	"strings"
	"testing"

	"peavey/api"
	"peavey/boom"
)

// The definitions of the chapter, word for word, with nothing that the package computes. A set of cells is a number whose bits they are.

// cellsOf returns the cells of a set, increasing.
func cellsOf(set uint64) []int {
	var l []int
	for cell := range 64 {
		if set>>cell&1 == 1 {
			l = append(l, cell)
		}
	}
	return l
}

// setOf returns the set of cells.
func setOf(cells []int) uint64 {
	var set uint64
	for _, cell := range cells {
		set |= 1 << cell
	}
	return set
}

// steps are the ways to the right, above, to the left and below.
func steps() [4][2]int { return [4][2]int{{1, 0}, {0, 1}, {-1, 0}, {0, -1}} }

// beside returns the neighbour of a cell at its right, above, at its left or below, -1 if the edge is there.
func beside(wide, high, cell, at int) int {
	x, y := cell%wide+steps()[at][0], cell/wide+steps()[at][1]
	if x < 0 || x >= wide || y < 0 || y >= high {
		return -1
	}
	return y*wide + x
}

// sticksAround returns how many sides lie between a cell of a set and one that is not, or the edge.
func sticksAround(wide, high int, set uint64) int {
	sticks := 0
	for _, cell := range cellsOf(set) {
		for at := range 4 {
			if next := beside(wide, high, cell, at); next < 0 || set>>next&1 == 0 {
				sticks++
			}
		}
	}
	return sticks
}

// enclosing yields all sets that enclose.
func enclosing(p api.BoomPond) iter.Seq[uint64] {
	return func(yield func(uint64) bool) {
		want, keep := setOf(p.Want), setOf(p.Keep)
		for set := range uint64(1) << (p.Wide * p.High) {
			if set&want == want && set&keep == 0 && !yield(set) {
				return
			}
		}
	}
}

// bestOf returns the fewest sticks of sets that enclose, and those that have so few.
func bestOf(p api.BoomPond) (int, []uint64) {
	fewest := math.MaxInt
	var sets []uint64
	for set := range enclosing(p) {
		sticks := sticksAround(p.Wide, p.High, set)
		if sticks < fewest {
			fewest, sets = sticks, nil
		}
		if sticks == fewest {
			sets = append(sets, set)
		}
	}
	return fewest, sets
}

// sidesOf returns the sides that a way uses, each as the two cells beside it, the lower one first, or as one and what is 100 and its edge; false if it is no way.
func sidesOf(p api.BoomPond, w api.BoomWay) ([][2]int, bool) {
	var sides [][2]int
	for i := 1; i < len(w.Cells); i++ {
		one, two := min(w.Cells[i-1], w.Cells[i]), max(w.Cells[i-1], w.Cells[i])
		if beside(p.Wide, p.High, one, 0) != two && beside(p.Wide, p.High, one, 1) != two {
			return nil, false
		}
		sides = append(sides, [2]int{one, two})
	}
	last := w.Cells[len(w.Cells)-1]
	if !slices.Contains(p.Want, w.Cells[0]) || w.Out < 0 && !slices.Contains(p.Keep, last) || w.Out >= 0 && beside(p.Wide, p.High, last, w.Out) >= 0 {
		return nil, false
	}
	if w.Out >= 0 {
		sides = append(sides, [2]int{last, 100 + w.Out})
	}
	return sides, true
}

// checkWays returns what CheckWays does for ways that are neither too many nor over what are no cells.
func checkWays(p api.BoomPond, l []api.BoomWay) (int, api.Errno) {
	used := map[[2]int]int{}
	for _, w := range l {
		sides, right := sidesOf(p, w)
		if !right {
			return 0, api.ErrRule
		}
		for _, s := range sides {
			used[s]++
		}
	}
	for _, many := range used {
		if many > 1 {
			return 0, api.ErrHave
		}
	}
	return len(l), api.OK
}

// cornersOf returns the corners of a chain of the letters E, N, W and S.
func cornersOf(c api.BoomChain) [][2]int {
	x, y := c.X, c.Y
	corners := [][2]int{{x, y}}
	for _, letter := range c.Sticks {
		step := steps()[strings.IndexRune("ENWS", letter)]
		x, y = x+step[0], y+step[1]
		corners = append(corners, [2]int{x, y})
	}
	return corners
}

// checkChain returns what CheckChain does for chains of 4 to 80 letters near the pond.
func checkChain(c api.BoomChain) api.Errno {
	if strings.ContainsFunc(c.Sticks, func(letter rune) bool { return !strings.ContainsRune("ENWS", letter) }) {
		return api.ErrForm
	}
	corners := cornersOf(c)
	for _, at := range corners {
		if min(at[0], at[1]) < 0 || max(at[0], at[1]) > 8 {
			return api.ErrRange
		}
	}
	for i, one := range corners {
		for j, two := range corners[:i] {
			if (one == two) != (i == len(corners)-1 && j == 0) {
				return api.ErrBoom
			}
		}
	}
	return api.OK
}

// besideStick returns the cells on the left and on the right of a stick that leads from one corner to another one, -1 for what is beyond the edge.
func besideStick(from, to [2]int) (left, right int) {
	cell := func(x, y int) int {
		if x < 0 || x > 7 || y < 0 || y > 7 {
			return -1
		}
		return y*8 + x
	}
	x, y := min(from[0], to[0]), min(from[1], to[1])
	switch [2]int{to[0] - from[0], to[1] - from[1]} {
	case [2]int{1, 0}:
		return cell(x, y), cell(x, y-1)
	case [2]int{-1, 0}:
		return cell(x, y-1), cell(x, y)
	case [2]int{0, 1}:
		return cell(x-1, y), cell(x, y)
	}
	return cell(x, y), cell(x-1, y)
}

// goneRound returns the cells that cannot be left for beyond the edge without going over a stick, and whether such a cell is on the left of each stick.
func goneRound(c api.BoomChain) (uint64, bool) {
	barred := map[[2]int]bool{}
	corners := cornersOf(c)
	for i := 1; i < len(corners); i++ {
		left, right := besideStick(corners[i-1], corners[i])
		barred[[2]int{left, right}], barred[[2]int{right, left}] = true, true
	}
	inside := ^uint64(0)
	for again := true; again; {
		again = false
		for _, cell := range cellsOf(inside) {
			for at := range 4 {
				next := beside(8, 8, cell, at)
				if !barred[[2]int{cell, next}] && (next < 0 || inside>>next&1 == 0) {
					inside &^= 1 << cell
					again = true
				}
			}
		}
	}
	for i := 1; i < len(corners); i++ {
		if left, _ := besideStick(corners[i-1], corners[i]); left < 0 || inside>>left&1 == 0 {
			return inside, false
		}
	}
	return inside, true
}

// Ponds, ways and chains to test.

// split returns the pond whose cells are wanted, kept out or neither, as the digits of a number to the base 3 say.
func split(wide, high, digits int) api.BoomPond {
	p := pond(wide, high, nil, nil)
	for cell := range wide * high {
		switch digits % 3 {
		case 1:
			p.Want = append(p.Want, cell)
		case 2:
			p.Keep = append(p.Keep, cell)
		}
		digits /= 3
	}
	return p
}

// smallPonds yields all ponds of up to so many cells.
func smallPonds(cells int) iter.Seq[api.BoomPond] {
	return func(yield func(api.BoomPond) bool) {
		for wide := 1; wide <= 8; wide++ {
			for high := 1; high <= 8 && wide*high <= cells; high++ {
				many := 1
				for range wide * high {
					many *= 3
				}
				for digits := range many {
					if !yield(split(wide, high, digits)) {
						return
					}
				}
			}
		}
	}
}

// randomPond returns a pond with many cells, few or none in Want, and in Keep.
func randomPond(r *rand.Rand, wide, high int) api.BoomPond {
	p := pond(wide, high, nil, nil)
	want, keep := r.IntN(60), r.IntN(60)
	if r.IntN(6) == 0 {
		keep = 0
	}
	for cell := range wide * high {
		switch x := r.IntN(120); {
		case x < want:
			p.Want = append(p.Want, cell)
		case x < want+keep:
			p.Keep = append(p.Keep, cell)
		}
	}
	return p
}

// sparsePond returns a pond with fewer cells in Want, and in Keep.
func sparsePond(r *rand.Rand, wide, high int) api.BoomPond {
	p := pond(wide, high, nil, nil)
	want, keep := 1+r.IntN(20), r.IntN(20)
	for cell := range wide * high {
		switch x := r.IntN(100); {
		case x < want:
			p.Want = append(p.Want, cell)
		case x < want+keep:
			p.Keep = append(p.Keep, cell)
		}
	}
	return p
}

// cases yields all ponds of up to five cells, and some of up to fifteen.
func cases() iter.Seq[api.BoomPond] {
	return func(yield func(api.BoomPond) bool) {
		for p := range smallPonds(5) {
			if !yield(p) {
				return
			}
		}
		for _, x := range ponds() {
			if x.p.Wide*x.p.High <= 15 && !yield(x.p) {
				return
			}
		}
		r := rand.New(rand.NewPCG(4, 4))
		shapes := [][2]int{{3, 2}, {2, 3}, {6, 1}, {1, 7}, {8, 1}, {2, 4}, {4, 2}, {3, 3}, {3, 3}, {5, 2}, {2, 5}, {4, 3}, {3, 4}}
		for range 30 {
			for _, s := range shapes {
				if !yield(randomPond(r, s[0], s[1])) {
					return
				}
			}
		}
	}
}

// wideCases yields the ponds of cases, and some of up to 8 by 8.
func wideCases() iter.Seq[api.BoomPond] {
	return func(yield func(api.BoomPond) bool) {
		for p := range cases() {
			if !yield(p) {
				return
			}
		}
		r := rand.New(rand.NewPCG(8, 8))
		for i := range 80 {
			p := randomPond(r, 1+r.IntN(8), 1+r.IntN(8))
			if i%3 == 0 {
				p = randomPond(r, 8, 8)
			}
			if !yield(p) {
				return
			}
		}
	}
}

// closedFrom yields all valid chains of up to so many sticks from a corner, to both sides, in a pond so wide and high.
func closedFrom(wide, high, x, y, most int) iter.Seq[api.BoomChain] {
	return func(yield func(api.BoomChain) bool) {
		met := map[[2]int]bool{{x, y}: true}
		var longer func(at [2]int, sticks string) bool
		longer = func(at [2]int, sticks string) bool {
			for i, step := range steps() {
				next, s := [2]int{at[0] + step[0], at[1] + step[1]}, sticks+"ENWS"[i:i+1]
				if next == [2]int{x, y} && len(s) >= 4 && !yield(chain(x, y, s)) {
					return false
				}
				back := max(next[0]-x, x-next[0]) + max(next[1]-y, y-next[1])
				if min(next[0], next[1]) < 0 || next[0] > wide || next[1] > high || met[next] || len(s)+back > most {
					continue
				}
				met[next] = true
				going := longer(next, s)
				delete(met, next)
				if !going {
					return false
				}
			}
			return true
		}
		longer([2]int{x, y}, "")
	}
}

// turnedRound returns a chain from the same corner on, the other way round.
func turnedRound(c api.BoomChain) api.BoomChain {
	var sticks []byte
	for _, letter := range slices.Backward([]byte(c.Sticks)) {
		sticks = append(sticks, "WSEN"[strings.IndexByte("ENWS", letter)])
	}
	return chain(c.X, c.Y, string(sticks))
}

// fromNext returns a chain from its next corner on.
func fromNext(c api.BoomChain) api.BoomChain {
	at := cornersOf(c)[1]
	return chain(at[0], at[1], c.Sticks[1:]+c.Sticks[:1])
}

// grown returns a chain that is changed so many times at random, each time at one cell: one of its sticks gives way to the three others, two to the two others, or three to the one other, if the chain stays valid.
func grown(r *rand.Rand, c api.BoomChain, changes int) api.BoomChain {
	for range changes {
		c = fromNext(c)
		next := c
		from, to := r.IntN(len(c.Sticks)), 1+r.IntN(3)
		if from+to > len(c.Sticks) {
			continue
		}
		part := c.Sticks[from : from+to]
		var other string
		switch {
		case to == 1:
			side := "NWSE"[strings.IndexByte("ENWS", part[0])]
			if r.IntN(2) == 0 {
				side = "SENW"[strings.IndexByte("ENWS", part[0])]
			}
			other = string([]byte{side, part[0], "WSEN"[strings.IndexByte("ENWS", side)]})
		case to == 2:
			other = string([]byte{part[1], part[0]})
		default:
			other = part[1:2]
		}
		next.Sticks = c.Sticks[:from] + other + c.Sticks[from+to:]
		if len(next.Sticks) >= 4 && len(next.Sticks) <= 80 && checkChain(next) == api.OK {
			c = next
		}
	}
	return c
}

// closed yields all valid chains of up to ten sticks from some corners, some long ones, and the longest, all with the other way round.
func closed() iter.Seq[api.BoomChain] {
	return func(yield func(api.BoomChain) bool) {
		for _, at := range [][2]int{{4, 4}, {0, 0}, {8, 8}, {0, 8}, {3, 0}, {8, 2}} {
			for c := range closedFrom(8, 8, at[0], at[1], 10) {
				if !yield(c) {
					return
				}
			}
		}
		r := rand.New(rand.NewPCG(80, 4))
		begins := []api.BoomChain{chainC(), square(), longest()}
		for i := range 90 {
			c := grown(r, begins[i%3], 40*(i/3))
			if !yield(c) || !yield(turnedRound(c)) {
				return
			}
		}
	}
}

// What the package says, without an error.

func must[T any](t *testing.T, x T, e api.Errno) T {
	t.Helper()
	if e != api.OK {
		t.Fatalf("error %d", e)
	}
	return x
}

func fewest(t *testing.T, p api.BoomPond) int {
	t.Helper()
	n, e := boom.Fewest(p)
	return must(t, n, e)
}

func small(t *testing.T, p api.BoomPond) uint64 {
	t.Helper()
	l, e := boom.Small(p)
	return setOf(must(t, l, e))
}

func large(t *testing.T, p api.BoomPond) uint64 {
	t.Helper()
	l, e := boom.Large(p)
	return setOf(must(t, l, e))
}

func kind(t *testing.T, p api.BoomPond, cell int) int {
	t.Helper()
	k, e := boom.Kind(p, cell)
	return must(t, k, e)
}

func enclosed(t *testing.T, c api.BoomChain) uint64 {
	t.Helper()
	l, e := boom.Enclosed(c)
	return setOf(must(t, l, e))
}

// Each function does what its definition says.

func TestPondsAgainstDefinition(t *testing.T) { // P4.1 to P4.4
	for p := range cases() {
		least, sets := bestOf(p)
		all, some := sets[0], sets[0]
		for _, set := range sets {
			all, some = all&set, some|set
		}
		if got := fewest(t, p); got != least {
			t.Fatalf("Fewest(%v) = %d, want %d", p, got, least)
		}
		if got, e := boom.Small(p); !slices.Equal(got, cellsOf(all)) || e != api.OK || !slices.Contains(sets, all) {
			t.Fatalf("Small(%v) = %v, %d, want %v", p, got, e, cellsOf(all))
		}
		if got, e := boom.Large(p); !slices.Equal(got, cellsOf(some)) || e != api.OK || !slices.Contains(sets, some) {
			t.Fatalf("Large(%v) = %v, %d, want %v", p, got, e, cellsOf(some))
		}
		for cell := range p.Wide * p.High {
			if got, want := kind(t, p, cell), int(all>>cell&1+some>>cell&1); got != want {
				t.Fatalf("Kind(%v, %d) = %d, want %d", p, cell, got, want)
			}
		}
		proof, e := boom.Ways(p)
		if many, f := checkWays(p, must(t, proof, e)); many != least || f != api.OK {
			t.Fatalf("Ways(%v) = %v: %d, %d, want %d", p, proof, many, f, least)
		}
	}
}

func TestSticksAgainstDefinition(t *testing.T) { // P4.1
	for p := range cases() {
		want, keep := setOf(p.Want), setOf(p.Keep)
		for set := range uint64(1) << (p.Wide * p.High) {
			got, e := boom.Sticks(p, cellsOf(set))
			switch {
			case set&want != want || set&keep != 0:
				if got != 0 || e != api.ErrBoom {
					t.Fatalf("Sticks(%v, %v) = %d, %d, want ErrBoom", p, cellsOf(set), got, e)
				}
			case got != sticksAround(p.Wide, p.High, set) || e != api.OK:
				t.Fatalf("Sticks(%v, %v) = %d, %d", p, cellsOf(set), got, e)
			}
		}
	}
}

// lists yields all lists of cells of up to so many.
func lists(cells, most int) iter.Seq[[]int] {
	return func(yield func([]int) bool) {
		var longer func(l []int) bool
		longer = func(l []int) bool {
			if len(l) > 0 && !yield(slices.Clone(l)) {
				return false
			}
			for cell := 0; cell < cells && len(l) < most; cell++ {
				if !longer(append(l, cell)) {
					return false
				}
			}
			return true
		}
		longer(nil)
	}
}

func TestCheckWaysAgainstDefinition(t *testing.T) { // P4.4
	check := func(p api.BoomPond, l []api.BoomWay) {
		t.Helper()
		got, e := boom.CheckWays(p, l)
		if want, f := checkWays(p, l); got != want || e != f {
			t.Fatalf("CheckWays(%v, %v) = %d, %d, want %d, %d", p, l, got, e, want, f)
		}
	}
	r := rand.New(rand.NewPCG(44, 4))
	for _, p := range []api.BoomPond{
		pond(1, 1, list(0), nil), pond(2, 1, list(1), nil), pond(1, 2, list(0), list(1)), pond(2, 2, list(0), list(3)), pond(2, 2, list(0, 1, 2, 3), nil), pond(2, 2, nil, nil),
		pond(3, 2, list(1), list(4)), pond(2, 3, list(1, 2), list(5)), pond(6, 1, list(2), list(4)), pond(1, 5, list(1, 2), list(4)),
	} {
		var right []api.BoomWay
		for cells := range lists(p.Wide*p.High, 5) {
			for out := -1; out <= 3; out++ {
				w := way(out, cells...)
				check(p, ways(w))
				if sides, is := sidesOf(p, w); is && len(sides) > 0 {
					right = append(right, w)
				}
			}
		}
		for range 4000 {
			if len(right) > 0 {
				check(p, ways(right[r.IntN(len(right))], right[r.IntN(len(right))]))
				check(p, ways(right[r.IntN(len(right))], right[r.IntN(len(right))], right[r.IntN(len(right))]))
			}
		}
	}
}

func TestChainsAgainstDefinition(t *testing.T) { // P4.5, P4.6
	for c := range closed() {
		if e := boom.CheckChain(c); e != api.OK {
			t.Fatalf("CheckChain(%v) = %d", c, e)
		}
		inside, toLeft := goneRound(c)
		if got, e := boom.Enclosed(c); !slices.Equal(got, cellsOf(inside)) || e != api.OK {
			t.Fatalf("Enclosed(%v) = %v, %d, want %v", c, got, e, cellsOf(inside))
		}
		if area, left, e := boom.Area(c); area != bits.OnesCount64(inside) || left != toLeft || e != api.OK {
			t.Fatalf("Area(%v) = %d, %v, %d, want %d, %v", c, area, left, e, bits.OnesCount64(inside), toLeft)
		}
	}
}

func TestCheckChainAgainstDefinition(t *testing.T) { // P4.5
	check := func(c api.BoomChain) {
		if e := boom.CheckChain(c); e != checkChain(c) {
			t.Fatalf("CheckChain(%v) = %d, want %d", c, e, checkChain(c))
		}
	}
	for digits := range lists(5, 6) {
		sticks := make([]byte, len(digits))
		for i, d := range digits {
			sticks[i] = "ENWSX"[d]
		}
		if len(sticks) < 4 {
			continue
		}
		for _, at := range [][2]int{{0, 0}, {1, 1}, {8, 8}, {7, 1}, {0, 5}, {-1, 0}, {4, 9}} {
			check(chain(at[0], at[1], string(sticks)))
		}
	}
	// Chains that close, with one letter changed, left out or added.
	r := rand.New(rand.NewPCG(45, 4))
	for c := range closed() {
		i, letter := r.IntN(len(c.Sticks)), "ENWS"[r.IntN(4):][:1]
		check(chain(c.X, c.Y, c.Sticks[:i]+letter+c.Sticks[i+1:]))
		if len(c.Sticks) < 80 {
			check(chain(c.X, c.Y, c.Sticks[:i]+letter+c.Sticks[i:]))
		}
		if len(c.Sticks) > 4 {
			check(chain(c.X, c.Y, c.Sticks[:i]+c.Sticks[i+1:]))
		}
		check(chain(c.X+r.IntN(3)-1, c.Y+r.IntN(3)-1, c.Sticks))
	}
}

func TestMostAgainstDefinition(t *testing.T) { // P4.7
	for wide := 1; wide <= 8; wide++ {
		for high := 1; high <= 8; high++ {
			for sticks := 4; sticks <= 81; sticks++ {
				want := [3]int{}
				for w := 1; w <= wide; w++ {
					for h := 1; h <= high; h++ {
						if 2*w+2*h <= sticks && w*h > want[0] {
							want = [3]int{w * h, w, h}
						}
					}
				}
				cells, w, h, e := boom.Most(sticks, wide, high)
				if got := [3]int{cells, w, h}; got != want || e != api.OK {
					t.Fatalf("Most(%d, %d, %d) = %v, %d, want %v", sticks, wide, high, got, e, want)
				}
			}
		}
	}
	// That no chain encloses more, and that one encloses so many: all chains in ponds of up to 3 by 3.
	type in struct{ sticks, wide, high int }
	most := map[in]int{}
	for wide := 1; wide <= 3; wide++ {
		for high := 1; high <= 3; high++ {
			for corner := range (wide + 1) * (high + 1) {
				for c := range closedFrom(wide, high, corner%(wide+1), corner/(wide+1), 16) {
					inside, _ := goneRound(c)
					for sticks := len(c.Sticks); sticks <= 20; sticks++ {
						x := in{sticks, wide, high}
						most[x] = max(most[x], bits.OnesCount64(inside))
					}
				}
			}
		}
	}
	if len(most) != 9*17 {
		t.Error(len(most))
	}
	for x, want := range most {
		if cells, _, _, e := boom.Most(x.sticks, x.wide, x.high); cells != want || e != api.OK {
			t.Errorf("Most(%v) = %d, %d, want %d", x, cells, e, want)
		}
	}
}

// The properties.

func TestProved(t *testing.T) { // P4.8
	check := func(p api.BoomPond) {
		t.Helper()
		proof, e := boom.Ways(p)
		many, f := boom.CheckWays(p, must(t, proof, e))
		if must(t, many, f) != len(proof) || many != fewest(t, p) {
			t.Fatalf("%v: %d ways, CheckWays says %d, Fewest %d", p, len(proof), many, fewest(t, p))
		}
		for _, water := range []uint64{small(t, p), large(t, p)} {
			if sticks, e := boom.Sticks(p, cellsOf(water)); must(t, sticks, e) != many {
				t.Fatalf("%v: %v has %d sticks, but there are %d ways", p, cellsOf(water), sticks, many)
			}
		}
	}
	for p := range wideCases() {
		check(p)
	}
	// Few cells that are wanted far from one another: here ways are often in the way of others.
	sparse := rand.New(rand.NewPCG(408, 4))
	for range 1500 {
		check(sparsePond(sparse, 3+sparse.IntN(6), 3+sparse.IntN(6)))
	}
	// Other ways than those of Ways, and other water than the best one.
	r := rand.New(rand.NewPCG(48, 4))
	for p := range cases() {
		apart := randomWays(r, p, 6)
		if many, e := boom.CheckWays(p, apart); must(t, many, e) != len(apart) {
			t.Fatalf("CheckWays(%v, %v) = %d", p, apart, many)
		}
		for set := range enclosing(p) {
			if sticks, e := boom.Sticks(p, cellsOf(set)); must(t, sticks, e) < len(apart) {
				t.Fatalf("%v: %v has %d sticks, but %v are apart", p, cellsOf(set), sticks, apart)
			}
		}
	}
}

// randomWays returns ways that are apart: each goes at random over sides that are not used, until it ends, and is left out if it cannot.
func randomWays(r *rand.Rand, p api.BoomPond, tries int) []api.BoomWay {
	var apart []api.BoomWay
	for range tries {
		if len(p.Want) == 0 {
			break
		}
		w := way(noEdge, p.Want[r.IntN(len(p.Want))])
		for range 20 {
			last := w.Cells[len(w.Cells)-1]
			if at := r.IntN(4); beside(p.Wide, p.High, last, at) < 0 {
				w.Out = at
			} else {
				w.Cells = append(w.Cells, beside(p.Wide, p.High, last, at))
			}
			if _, e := checkWays(p, append(slices.Clone(apart), w)); e == api.OK {
				apart = append(apart, w)
				break
			} else if w.Out != noEdge {
				break
			}
		}
	}
	return apart
}

func TestBetween(t *testing.T) { // P4.9
	for p := range cases() {
		least, all, some := fewest(t, p), small(t, p), large(t, p)
		var sets []uint64
		for set := range enclosing(p) {
			if sticks, e := boom.Sticks(p, cellsOf(set)); must(t, sticks, e) == least {
				sets = append(sets, set)
			}
		}
		for _, one := range sets {
			if one&all != all || one&^some != 0 {
				t.Fatalf("%v: %v is best water, but not between %v and %v", p, cellsOf(one), cellsOf(all), cellsOf(some))
			}
			for _, two := range sets[:min(len(sets), 40)] {
				if !slices.Contains(sets, one&two) || !slices.Contains(sets, one|two) {
					t.Fatalf("%v: %v and %v are best water, but not what is in both, or in one", p, cellsOf(one), cellsOf(two))
				}
			}
		}
	}
}

// with returns a list with one cell more.
func with(l []int, cell int) []int {
	return slices.Sorted(slices.Values(append(slices.Clone(l), cell)))
}

func TestMore(t *testing.T) { // P4.10
	for p := range wideCases() {
		least, all, some := fewest(t, p), small(t, p), large(t, p)
		for cell := range p.Wide * p.High {
			if slices.Contains(p.Want, cell) || slices.Contains(p.Keep, cell) {
				continue
			}
			wanted := pond(p.Wide, p.High, with(p.Want, cell), p.Keep)
			if got := fewest(t, wanted); got < least {
				t.Fatalf("%v needs %d sticks, with cell %d wanted %d", p, least, cell, got)
			}
			if all&^small(t, wanted) != 0 || some&^large(t, wanted) != 0 {
				t.Fatalf("%v: with cell %d wanted there is less", p, cell)
			}
			kept := pond(p.Wide, p.High, p.Want, with(p.Keep, cell))
			if got := fewest(t, kept); got < least {
				t.Fatalf("%v needs %d sticks, with cell %d kept out %d", p, least, cell, got)
			}
			if small(t, kept)&^all != 0 || large(t, kept)&^some != 0 {
				t.Fatalf("%v: with cell %d kept out there is more", p, cell)
			}
			// Which tells in ponds of any size what Kind is.
			want := api.BoomNever
			switch {
			case fewest(t, kept) > least:
				want = api.BoomAlways
			case fewest(t, wanted) == least:
				want = api.BoomMay
			}
			if got := kind(t, p, cell); got != want || want != int(all>>cell&1+some>>cell&1) {
				t.Fatalf("Kind(%v, %d) = %d, want %d, between %v and %v", p, cell, got, want, cellsOf(all), cellsOf(some))
			}
		}
	}
}

func TestTogether(t *testing.T) { // P4.11
	r := rand.New(rand.NewPCG(411, 4))
	for p := range wideCases() {
		var one, two []int
		for _, cell := range p.Want {
			in := r.IntN(3)
			if in != 0 {
				one = append(one, cell)
			}
			if in != 1 {
				two = append(two, cell)
			}
		}
		a, b, both := fewest(t, pond(p.Wide, p.High, one, p.Keep)), fewest(t, pond(p.Wide, p.High, two, p.Keep)), fewest(t, p)
		if both > a+b {
			t.Fatalf("%v needs %d sticks, %v and %v alone %d and %d", p, both, one, two, a, b)
		}
	}
}

// moved returns the cells of a list, sorted, each where a rule has it.
func moved(l []int, rule func(cell int) int) []int {
	var m []int
	for _, cell := range l {
		m = append(m, rule(cell))
	}
	slices.Sort(m)
	return m
}

func TestTurned(t *testing.T) { // P4.12
	for p := range wideCases() {
		behind := func(cell int) int { return cell/p.Wide*p.Wide + p.Wide - 1 - cell%p.Wide }
		exchanged := func(cell int) int { return cell%p.Wide*p.High + cell/p.Wide }
		for _, x := range []struct {
			p    api.BoomPond
			rule func(cell int) int
		}{
			{pond(p.Wide, p.High, moved(p.Want, behind), moved(p.Keep, behind)), behind},
			{pond(p.High, p.Wide, moved(p.Want, exchanged), moved(p.Keep, exchanged)), exchanged},
		} {
			if one, two := fewest(t, p), fewest(t, x.p); one != two {
				t.Fatalf("%v needs %d sticks, %v needs %d", p, one, x.p, two)
			}
			if setOf(moved(cellsOf(small(t, p)), x.rule)) != small(t, x.p) || setOf(moved(cellsOf(large(t, p)), x.rule)) != large(t, x.p) {
				t.Fatalf("the best water of %v and of %v does not go with the cells", p, x.p)
			}
		}
	}
}

func TestChained(t *testing.T) { // P4.13
	for c := range closed() {
		water := enclosed(t, c)
		if sticks, e := boom.Sticks(pond(8, 8, nil, nil), cellsOf(water)); must(t, sticks, e) != len(c.Sticks) {
			t.Fatalf("%v goes round %v, which has %d sticks", c, cellsOf(water), sticks)
		}
		area, left, e := boom.Area(c)
		if must(t, area, e) != bits.OnesCount64(water) {
			t.Fatalf("Area(%v) = %d, but it goes round %v", c, area, cellsOf(water))
		}
		next := c
		for range c.Sticks {
			next = fromNext(next)
			if again, side, e := boom.Area(next); again != area || side != left || e != api.OK || enclosed(t, next) != water {
				t.Fatalf("%v and %v do not enclose the same", c, next)
			}
		}
		back := turnedRound(c)
		if again, side, e := boom.Area(back); again != area || side == left || e != api.OK || enclosed(t, back) != water {
			t.Fatalf("%v and %v do not enclose the same on both sides", c, back)
		}
	}
}

func TestBox(t *testing.T) { // P4.14
	for c := range closed() {
		cells := cellsOf(enclosed(t, c))
		if most, _, _, e := boom.Most(len(c.Sticks), 8, 8); must(t, most, e) < len(cells) {
			t.Fatalf("%v encloses %d, Most says %d", c, len(cells), most)
		}
		columns := moved(cells, func(cell int) int { return cell % 8 })
		wide, high := columns[len(columns)-1]-columns[0]+1, cells[len(cells)-1]/8-cells[0]/8+1
		if len(c.Sticks) < 2*(wide+high) {
			t.Fatalf("%v is shorter than the box of %d by %d around it", c, wide, high)
		}
		if most, w, h, e := boom.Most(len(c.Sticks), wide, high); must(t, most, e) != wide*high || w != wide || h != high {
			t.Fatalf("%v: Most(%d, %d, %d) = %d, %d, %d", c, len(c.Sticks), wide, high, most, w, h)
		}
	}
}

func TestWider(t *testing.T) { // P4.15
	for p := range wideCases() {
		least := fewest(t, p)
		for _, more := range [][2]int{{1, 0}, {0, 1}, {2, 3}} {
			wide, high := min(8, p.Wide+more[0]), min(8, p.High+more[1])
			same := func(cell int) int { return cell/p.Wide*wide + cell%p.Wide }
			wider := pond(wide, high, moved(p.Want, same), moved(p.Keep, same))
			if got := fewest(t, wider); got > least {
				t.Fatalf("%v needs %d sticks, %v needs %d", p, least, wider, got)
			}
		}
	}
}

// The rules of DOC.md.

// results returns what all functions return for these arguments.
func results(p api.BoomPond, water []int, l []api.BoomWay, c api.BoomChain, sticks int) []any {
	var out []any
	add := func(x ...any) { out = append(out, x...) }
	add(boom.CheckPond(p))
	has, e := boom.Sticks(p, water)
	add(has, e)
	least, e := boom.Fewest(p)
	add(least, e)
	small, e := boom.Small(p)
	add(small, e)
	large, e := boom.Large(p)
	add(large, e)
	kind, e := boom.Kind(p, sticks)
	add(kind, e)
	many, e := boom.CheckWays(p, l)
	add(many, e)
	proof, e := boom.Ways(p)
	add(proof, e)
	add(boom.CheckChain(c))
	inside, e := boom.Enclosed(c)
	add(inside, e)
	area, left, e := boom.Area(c)
	add(area, left, e)
	cells, wide, high, e := boom.Most(sticks, p.Wide, p.High)
	add(cells, wide, high, e)
	return out
}

// overwrite writes over all that a list reaches.
func overwrite(l []int) {
	for i := range l[:cap(l)] {
		l[:cap(l)][i] = -9
	}
}

// copied returns ways that share no memory with those of a list.
func copied(l []api.BoomWay) []api.BoomWay {
	var m []api.BoomWay
	for _, w := range l {
		m = append(m, way(w.Out, slices.Clone(w.Cells)...))
	}
	return m
}

func TestNothingSharedNorChanged(t *testing.T) { // R4, R9, R10
	wantWater, wantWays := list(0, 2, 5), ways(way(noEdge, 5, 6), way(2, 5, 4), way(3, 5, 1))
	r := rand.New(rand.NewPCG(1, 4))
	for _, x := range []api.BoomPond{pondP(), pondR(), pond(1, 1, list(0), nil), pond(8, 8, board(0), board(1)), randomPond(r, 8, 8), randomPond(r, 7, 8), randomPond(r, 8, 5)} {
		p := pond(x.Wide, x.High, slices.Clone(x.Want), slices.Clone(x.Keep))
		water, l := slices.Clone(wantWater), copied(wantWays)
		want := results(p, water, l, longest(), 9)
		for _, y := range results(p, water, l, longest(), 9) {
			switch cells := y.(type) {
			case []int:
				overwrite(cells)
			case []api.BoomWay:
				for i := range cells {
					others := copied(cells[i+1:])
					overwrite(cells[i].Cells)
					if !reflect.DeepEqual(copied(cells[i+1:]), others) {
						t.Errorf("ways share memory: %v", cells)
					}
				}
			}
		}
		if !reflect.DeepEqual(p, pond(x.Wide, x.High, slices.Clone(x.Want), slices.Clone(x.Keep))) || !slices.Equal(water, wantWater) || !reflect.DeepEqual(l, wantWays) {
			t.Error("arguments are changed:", p, water, l)
		}
		for range 20 {
			if got := results(p, water, l, longest(), 9); !reflect.DeepEqual(got, want) {
				t.Fatalf("another result: %v, not %v", got, want)
			}
		}
	}
}

func TestNilIsEmpty(t *testing.T) { // R3
	// Printed, nil and an empty list are the same.
	check := func(a, b []any) {
		t.Helper()
		if one, two := fmt.Sprint(a), fmt.Sprint(b); one != two {
			t.Errorf("%s with nil, %s with empty lists", one, two)
		}
	}
	check(results(pond(4, 3, nil, nil), nil, nil, chainC(), 3), results(pond(4, 3, []int{}, []int{}), []int{}, ways(), chainC(), 3))
	check(results(pond(4, 3, list(5), nil), nil, ways(way(0)), chainC(), 3), results(pond(4, 3, list(5), []int{}), []int{}, ways(way(0, []int{}...)), chainC(), 3))
	check(results(pond(4, 3, nil, list(5)), nil, nil, chainC(), 3), results(pond(4, 3, []int{}, list(5)), []int{}, ways(), chainC(), 3))
}

func TestAnyArguments(t *testing.T) { // P1, R5
	numbers := list(math.MinInt, math.MinInt+1, -1, 0, 1, 2, 7, 8, 9, 63, 64, 80, math.MaxInt-1, math.MaxInt)
	for _, a := range numbers {
		for _, b := range numbers {
			for _, c := range numbers {
				for _, sticks := range []string{"", "E", "ENWS", "WSEN", "SSSS", "\xff\xfe\x00E", longest().Sticks, longest().Sticks + "E"} {
					results(pond(a, b, list(c), list(a)), list(a, b, c), ways(way(a, b, c), way(b, c)), chain(a, b, sticks), c)
				}
				results(pond(8, 8, list(a), list(b)), list(a, b, c), ways(way(c, a, b), way(c)), chain(a, c, "NESW"), a)
				results(pond(8, 8, list(0, 9), list(63)), list(a, b, c), ways(way(a, 0, b), way(b, c, 9), way(c, 9, 8, a)), chain(b, c, "NNWWSSEE"), b)
				results(pond(1, 8, list(0), nil), list(a), ways(way(a, 0), way(b, 0), way(c, 0)), chain(c, b, "SENW"), b)
			}
		}
	}
}

// At the limits of the chapter all calls end soon.
func TestLimits(t *testing.T) {
	r := rand.New(rand.NewPCG(64, 4))
	all := []api.BoomPond{pond(8, 8, nil, nil), pond(8, 8, board(0), board(1)), pond(8, 8, indexes(64), nil), pond(8, 8, nil, indexes(64)), pond(8, 8, list(0), list(63)), pond(8, 8, snake()[:1], nil)}
	for range 10 {
		all = append(all, randomPond(r, 8, 8))
	}
	long := way(noEdge, snake()...)
	for _, p := range all {
		results(p, indexes(64), copies(256, long), longest(), 80)
		results(p, board(0), copies(256, way(2, slices.Repeat(list(0, 1), 32)...)), square(), 32)
		if proof, e := boom.Ways(p); len(must(t, proof, e)) > api.MaxBoomWays {
			t.Errorf("%v: %d ways", p, len(proof))
		}
	}
}
