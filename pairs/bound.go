package pairs

import (
	"math/bits"
	"slices"

	"torchon/api"
)

// places is a set of places, with a bit for each of them.
type places uint32

// Bound returns places whose pairs hang at the same time in any order.
func Bound(s api.Sheet) (api.PrMark, api.Errno) {
	all, e := steps(s)
	if e != api.OK {
		return api.PrMark{}, e
	}
	if len(s.Works) == 0 {
		return api.PrMark{}, api.ErrNone
	}
	above, below := taken(s.Works), taken(s.Works)
	for _, step := range all {
		above[step.To] |= above[step.From]
	}
	for _, step := range slices.Backward(all) {
		below[step.From] |= below[step.To]
	}
	best, most := 0, places(0)
	for i := range s.Works {
		if both := above[i] & below[i]; both.count() > most.count() {
			best, most = i, both
		}
	}
	return api.PrMark{Work: best, Places: most.list()}, api.OK
}

// taken returns the places of each work.
func taken(works []api.Work) []places {
	l := make([]places, 0, len(works))
	for _, w := range works {
		l = append(l, (1<<sides-1)<<w.At)
	}
	return l
}

func (p places) count() int {
	return bits.OnesCount32(uint32(p))
}

// list returns the places of a set, ascending.
func (p places) list() []int {
	l := make([]int, 0, p.count())
	for place := range api.MaxPairs {
		if p>>place&1 == 1 {
			l = append(l, place)
		}
	}
	return l
}
