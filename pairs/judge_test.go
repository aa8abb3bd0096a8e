package pairs_test

import (
	"math/rand"
	"slices"

	"torchon/api"
)

// This file judges by the sentences of the chapters, and calls nothing of the program.

func stitch(at int, word string) api.Work {
	return api.Work{Kind: api.WkStitch, At: at, Word: word}
}

func sew(at int) api.Work {
	return api.Work{Kind: api.WkSew, At: at}
}

// sheetOf returns a sheet with works in these places: stitches with several words, and sewings.
func sheetOf(pairs int, at ...int) api.Sheet {
	s := api.Sheet{Pairs: pairs}
	for i, place := range at {
		w := stitch(place, [...]string{"CTC", "CT", "TP", "", "LrcP"}[i%5])
		if i%6 == 5 {
			w = sew(place)
		}
		s.Works = append(s.Works, w)
	}
	return s
}

// someSheet returns a sheet with so many works, which depends on r alone.
func someSheet(r *rand.Rand, pairs, works int) api.Sheet {
	at := make([]int, works)
	for i := range at {
		at[i] = r.Intn(pairs - 1)
	}
	return sheetOf(pairs, at...)
}

// manySheets calls with all sheets of at most 4 works on at most 6 pairs, and with some of at most so many works on at most 13.
func manySheets(works int, call func(s api.Sheet)) {
	var grow func(pairs int, at []int)
	grow = func(pairs int, at []int) {
		call(sheetOf(pairs, at...))
		for place := range pairs - 1 {
			if len(at) < 4 {
				grow(pairs, append(slices.Clone(at), place))
			}
		}
	}
	for pairs := 2; pairs <= 6; pairs++ {
		grow(pairs, nil)
	}
	r := rand.New(rand.NewSource(1))
	for range 300 {
		call(someSheet(r, 2+r.Intn(12), r.Intn(works+1)))
	}
}

// takes returns whether a work takes a place.
func takes(w api.Work, place int) bool {
	return place == w.At || place == w.At+1
}

// touching returns whether two works have a place in common.
func touching(v, w api.Work) bool {
	return takes(v, w.At) || takes(v, w.At+1)
}

// beforeTable returns for each two works whether the first one is before the second one.
func beforeTable(s api.Sheet) [][]bool {
	is := make([][]bool, len(s.Works))
	for a := len(is) - 1; a >= 0; a-- {
		is[a] = make([]bool, len(is))
		for b := a + 1; b < len(is); b++ {
			if !touching(s.Works[a], s.Works[b]) {
				continue
			}
			is[a][b] = true
			for c := range is {
				is[a][c] = is[a][c] || is[b][c]
			}
		}
	}
	return is
}

// isOrder returns whether a list has each work once, and none before one that is before it.
func isOrder(before [][]bool, l []int) bool {
	sorted := slices.Clone(l)
	slices.Sort(sorted)
	for i, k := range sorted {
		if i != k {
			return false
		}
	}
	for k, b := range l {
		for _, a := range l[k+1:] {
			if before[a][b] {
				return false
			}
		}
	}
	return len(l) == len(before)
}

// everyList calls with all lists of n numbers below n, in their order.
func everyList(n int, call func(l []int)) {
	var grow func(l []int)
	grow = func(l []int) {
		if len(l) == n {
			call(l)
			return
		}
		for i := range n {
			grow(append(slices.Clone(l), i))
		}
	}
	grow(nil)
}

// everyOrder calls with all orders of a sheet, from the least list on.
func everyOrder(s api.Sheet, call func(order []int)) {
	before := beforeTable(s)
	var grow func(l []int)
	grow = func(l []int) {
		if len(l) == len(before) {
			call(slices.Clone(l))
		}
		for i := range before {
			if canFollow(before, l, i) {
				grow(append(slices.Clone(l), i))
			}
		}
	}
	grow(nil)
}

// canFollow returns whether a work is none of the works that are done, and all before it are.
func canFollow(before [][]bool, done []int, work int) bool {
	for a := range before {
		if before[a][work] && !slices.Contains(done, a) {
			return false
		}
	}
	return !slices.Contains(done, work)
}

// someOrder returns an order of a sheet, which depends on r alone.
func someOrder(r *rand.Rand, s api.Sheet) []int {
	order := upTo(len(s.Works))
	for range 20 * len(order) {
		if len(order) < 2 {
			break
		}
		k := r.Intn(len(order) - 1)
		if !touching(s.Works[order[k]], s.Works[order[k+1]]) {
			order[k], order[k+1] = order[k+1], order[k]
		}
	}
	return order
}

// upTo returns the numbers from 0 to n - 1.
func upTo(n int) []int {
	l := make([]int, n)
	for i := range l {
		l[i] = i
	}
	return l
}

// hangs returns whether a pair hangs in a place while the work k of an order is made.
func hangs(s api.Sheet, order []int, k, place int) bool {
	taking := func(i int) bool { return takes(s.Works[i], place) }
	return slices.ContainsFunc(order[:k+1], taking) && slices.ContainsFunc(order[k:], taking)
}

// hangingOf returns how many pairs hang while each work is made, and the need.
func hangingOf(s api.Sheet, order []int) ([]int, int) {
	var l []int
	need := 0
	for k := range order {
		n := 0
		for place := range s.Pairs {
			if hangs(s, order, k, place) {
				n++
			}
		}
		l = append(l, n)
		need = max(need, n)
	}
	return l, need
}

// fewestOf returns the least thrifty order and its need, by trying all orders.
func fewestOf(s api.Sheet) ([]int, int) {
	var best []int
	least := -1
	everyOrder(s, func(order []int) {
		if _, need := hangingOf(s, order); least < 0 || need < least {
			best, least = order, need
		}
	})
	return best, least
}

// leastWithin returns the least order whose need is at most so much, if there is one. It goes back where it cannot go on, and remembers after which works that was.
func leastWithin(s api.Sheet, need int) ([]int, bool) {
	before := beforeTable(s)
	hopeless := map[int]bool{}
	var grow func(l []int, made int) ([]int, bool)
	grow = func(l []int, made int) ([]int, bool) {
		if len(l) == len(before) {
			return l, true
		}
		for i := range before {
			if hopeless[made|1<<i] || !canFollow(before, l, i) {
				continue
			}
			now := append(slices.Clone(l), i)
			if hangingBetween(s, now) <= need {
				if order, ok := grow(now, made|1<<i); ok {
					return order, true
				}
			}
		}
		hopeless[made] = true
		return nil, false
	}
	return grow(nil, 0)
}

// hangingBetween returns how many pairs hang while the last one of some works is made.
func hangingBetween(s api.Sheet, made []int) int {
	rest := upTo(len(s.Works))
	rest = slices.DeleteFunc(rest, func(i int) bool { return slices.Contains(made, i) })
	n := 0
	for place := range s.Pairs {
		if hangs(s, slices.Concat(made, rest), len(made)-1, place) {
			n++
		}
	}
	return n
}

// markOf returns the mark of a work.
func markOf(s api.Sheet, before [][]bool, work int) api.PrMark {
	m := api.PrMark{Work: work}
	for place := range s.Pairs {
		above, below := false, false
		for i, w := range s.Works {
			above = above || takes(w, place) && (i == work || before[i][work])
			below = below || takes(w, place) && (i == work || before[work][i])
		}
		if above && below {
			m.Places = append(m.Places, place)
		}
	}
	return m
}

// boundOf returns the first one of the marks with the most places.
func boundOf(s api.Sheet) api.PrMark {
	before := beforeTable(s)
	var best api.PrMark
	for i := range s.Works {
		if m := markOf(s, before, i); len(m.Places) > len(best.Places) {
			best = m
		}
	}
	return best
}

// shareOf returns the numbers that the places get: of those places that begin to hang while the same work is made, the left one is first, and no place keeps its number after its last work.
func shareOf(s api.Sheet, order []int) []int {
	numbers := make([]int, s.Pairs)
	for place := range numbers {
		numbers[place] = -1
	}
	for k := range order {
		for place := range s.Pairs {
			if !hangs(s, order, k, place) || k > 0 && hangs(s, order, k-1, place) {
				continue
			}
			var had []int
			for other := range s.Pairs {
				if other != place && hangs(s, order, k, other) {
					had = append(had, numbers[other])
				}
			}
			for numbers[place] = 0; slices.Contains(had, numbers[place]); {
				numbers[place]++
			}
		}
	}
	return numbers
}
