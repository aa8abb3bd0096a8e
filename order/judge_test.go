package order_test

import (
	"math/rand"
	"slices"

	"torchon/api"
)

// This file judges by the sentences of the chapters, and calls nothing of the program.

func stitch(at int, word string) api.Work {
	return api.Work{Kind: api.WkStitch, At: at, Word: word}
}

func sew(at int) api.Work {
	return api.Work{Kind: api.WkSew, At: at}
}

// sheetOf returns a sheet with works in these places: stitches with several words, and sewings.
func sheetOf(pairs int, at ...int) api.Sheet {
	s := api.Sheet{Pairs: pairs}
	for i, place := range at {
		w := stitch(place, [...]string{"CTC", "CT", "TP", "", "LrcP"}[i%5])
		if i%6 == 5 {
			w = sew(place)
		}
		s.Works = append(s.Works, w)
	}
	return s
}

// someSheet returns a sheet with so many works, which depends on r alone.
func someSheet(r *rand.Rand, pairs, works int) api.Sheet {
	at := make([]int, works)
	for i := range at {
		at[i] = r.Intn(pairs - 1)
	}
	return sheetOf(pairs, at...)
}

// wish returns a wish for two different ones of so many works, which depends on r alone; few of them are against the order of the sheet.
func wish(r *rand.Rand, works int) [2]int {
	first := r.Intn(works)
	later := (first + 1 + r.Intn(works-1)) % works
	if first > later && r.Intn(4) > 0 {
		return [2]int{later, first}
	}
	return [2]int{first, later}
}

// someWishes returns at most so many wishes, which depend on r alone.
func someWishes(r *rand.Rand, works, many int) [][2]int {
	var wishes [][2]int
	for range r.Intn(many + 1) {
		if works > 1 {
			wishes = append(wishes, wish(r, works))
		}
	}
	return wishes
}

// manySheets calls with all sheets of at most 3 works on at most 5 pairs, with all wishes of which at most 2 are needed, and with some of at most so many works on at most 13 pairs, with some wishes.
func manySheets(works int, call func(s api.Sheet, wishes [][2]int)) {
	var grow func(pairs int, at []int)
	grow = func(pairs int, at []int) {
		s := sheetOf(pairs, at...)
		call(s, nil)
		everyWish(len(at), func(v [2]int) {
			call(s, [][2]int{v})
			everyWish(len(at), func(w [2]int) { call(s, [][2]int{v, w}) })
		})
		for place := range pairs - 1 {
			if len(at) < 3 {
				grow(pairs, append(slices.Clone(at), place))
			}
		}
	}
	for pairs := 2; pairs <= 5; pairs++ {
		grow(pairs, nil)
	}
	r := rand.New(rand.NewSource(1))
	for k := range 600 {
		s := someSheet(r, 2+r.Intn(12), r.Intn(works+1))
		call(s, someWishes(r, len(s.Works), k%7))
	}
}

// everyWish calls with all wishes for so many works.
func everyWish(works int, call func(w [2]int)) {
	for first := range works {
		for later := range works {
			if first != later {
				call([2]int{first, later})
			}
		}
	}
}

// takes returns whether a work takes a place.
func takes(w api.Work, place int) bool {
	return place == w.At || place == w.At+1
}

// touching returns whether two works have a place in common.
func touching(v, w api.Work) bool {
	return takes(v, w.At) || takes(v, w.At+1)
}

// directly returns for each two works whether the first one comes directly before the second one.
func directly(s api.Sheet, wishes [][2]int) [][]bool {
	is := make([][]bool, len(s.Works))
	for a := range is {
		is[a] = make([]bool, len(is))
		for b := range is {
			is[a][b] = a < b && touching(s.Works[a], s.Works[b]) || slices.Contains(wishes, [2]int{a, b})
		}
	}
	return is
}

// respects returns whether a list has each work once, and each one after all that come directly before it.
func respects(direct [][]bool, l []int) bool {
	sorted := slices.Clone(l)
	slices.Sort(sorted)
	if !slices.Equal(sorted, upTo(len(direct))) {
		return false
	}
	for k, b := range l {
		for _, a := range l[k+1:] {
			if direct[a][b] {
				return false
			}
		}
	}
	return true
}

// isCycle returns whether a list has works, each once, each directly before the next one, and the last one before the first one.
func isCycle(direct [][]bool, l []int) bool {
	if len(l) == 0 || l[0] < 0 || l[0] >= len(direct) {
		return false
	}
	last := l[len(l)-1]
	for k, i := range l {
		if i < 0 || i >= len(direct) || !direct[last][i] || slices.Contains(l[:k], i) {
			return false
		}
		last = i
	}
	return true
}

// everyList calls with all lists of n numbers below n, in their order.
func everyList(n int, call func(l []int)) {
	var grow func(l []int)
	grow = func(l []int) {
		if len(l) == n {
			call(l)
			return
		}
		for i := range n {
			grow(append(slices.Clone(l), i))
		}
	}
	grow(nil)
}

// everyOrder calls with all orders that respect the wishes, from the least list on.
func everyOrder(direct [][]bool, call func(order []int)) {
	var grow func(l []int)
	grow = func(l []int) {
		if len(l) == len(direct) {
			call(slices.Clone(l))
		}
		for i := range direct {
			if canFollow(direct, l, i) {
				grow(append(slices.Clone(l), i))
			}
		}
	}
	grow(nil)
}

// canFollow returns whether a work is none of the works that are done, and all directly before it are.
func canFollow(direct [][]bool, done []int, work int) bool {
	for a := range direct {
		if direct[a][work] && !slices.Contains(done, a) {
			return false
		}
	}
	return !slices.Contains(done, work)
}

// someOrder returns an order that respects the wishes, which depends on r alone; none if there is none.
func someOrder(r *rand.Rand, direct [][]bool) []int {
	var l []int
	for range direct {
		can := slices.DeleteFunc(upTo(len(direct)), func(i int) bool { return !canFollow(direct, l, i) })
		if len(can) == 0 {
			return nil
		}
		l = append(l, can[r.Intn(len(can))])
	}
	return l
}

// upTo returns the numbers from 0 to n - 1.
func upTo(n int) []int {
	l := make([]int, n)
	for i := range l {
		l[i] = i
	}
	return l
}

// ordersOf returns all orders that respect the wishes, from the least list on.
func ordersOf(direct [][]bool) [][]int {
	var all [][]int
	everyOrder(direct, func(order []int) { all = append(all, order) })
	return all
}

// cycleOf returns the least one of the cycles with the fewest works, by trying all lists of works of one number after those of the number below; nil if there is none.
func cycleOf(direct [][]bool) []int {
	var best []int
	var grow func(l []int, many int)
	grow = func(l []int, many int) {
		if best == nil && len(l) == many && isCycle(direct, l) {
			best = slices.Clone(l)
		}
		for i := range direct {
			if best == nil && len(l) < many && !slices.Contains(l, i) {
				grow(append(slices.Clone(l), i), many)
			}
		}
	}
	for many := 1; many <= len(direct) && best == nil; many++ {
		grow(nil, many)
	}
	return best
}

// cycleByWalks returns the same for more works: it finds between which works walks of 1 step, of 2, and so on lead, until one comes back to where it began.
func cycleByWalks(direct [][]bool) []int {
	walks := [][][]bool{direct}
	for many := 1; many <= len(direct); many++ {
		now := walks[many-1]
		for first := range direct {
			if !now[first][first] {
				continue
			}
			l := []int{first}
			for left := many - 1; left > 0; left-- {
				next := 0
				for !direct[l[len(l)-1]][next] || !walks[left-1][next][first] {
					next++
				}
				l = append(l, next)
			}
			return l
		}
		next := make([][]bool, len(direct))
		for a := range direct {
			next[a] = make([]bool, len(direct))
			for b := range direct {
				for c := range direct {
					if direct[a][b] && now[b][c] {
						next[a][c] = true
					}
				}
			}
		}
		walks = append(walks, next)
	}
	return nil
}

// asideOf returns the steps aside of an order.
func asideOf(s api.Sheet, order []int) int {
	aside := 0
	for k := 1; k < len(order); k++ {
		if !touching(s.Works[order[k-1]], s.Works[order[k]]) {
			aside++
		}
	}
	return aside
}

// nearOf returns the least order that is near, and its steps aside, by trying all orders; nil if there is none.
func nearOf(s api.Sheet, orders [][]int) ([]int, int) {
	var best []int
	least := 0
	for _, order := range orders {
		if aside := asideOf(s, order); best == nil || aside < least {
			best, least = append([]int{}, order...), aside
		}
	}
	return best, least
}

// leastWithin returns the least order that respects the wishes with at most so many steps aside, if there is one. It goes back where it cannot go on, and remembers after which works, and with how many steps left, that was.
func leastWithin(s api.Sheet, direct [][]bool, aside int) ([]int, bool) {
	type state struct{ made, last, left int }
	hopeless := map[state]bool{}
	var grow func(l []int, now state) ([]int, bool)
	grow = func(l []int, now state) ([]int, bool) {
		if len(l) == len(direct) {
			return l, true
		}
		for i := range direct {
			if !canFollow(direct, l, i) {
				continue
			}
			next := state{now.made | 1<<i, i, now.left}
			if len(l) > 0 && !touching(s.Works[now.last], s.Works[i]) {
				next.left--
			}
			if next.left < 0 || hopeless[next] {
				continue
			}
			if order, ok := grow(append(slices.Clone(l), i), next); ok {
				return order, true
			}
		}
		hopeless[now] = true
		return nil, false
	}
	return grow(nil, state{last: -1, left: aside})
}

// countOf returns how many orders respect the wishes of at most 16 works: it counts in how many ways each set of works can be made first.
func countOf(direct [][]bool) int64 {
	n := len(direct)
	before := make([]int, n)
	for b := range n {
		for a := range n {
			if direct[a][b] {
				before[b] |= 1 << a
			}
		}
	}
	ways := make([]int64, 1<<n)
	ways[0] = 1
	for made, many := range ways {
		for i := range n {
			if many > 0 && made>>i&1 == 0 && before[i]&^made == 0 {
				ways[made|1<<i] += ways[made]
			}
		}
	}
	return ways[1<<n-1]
}
