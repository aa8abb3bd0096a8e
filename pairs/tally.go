package pairs

import "torchon/api"

// A tally has for each place how many of the works that take it are made, and how many are left.
type tally struct{ made, left [api.MaxPairs]int }

// tallyOf returns the tally of works none of which is made.
func tallyOf(works []api.Work) tally {
	var t tally
	for _, w := range works {
		for place := w.At; place < w.At+sides; place++ {
			t.left[place]++
		}
	}
	return t
}

// do makes a work, and returns how many pairs hang meanwhile.
func (t *tally) do(w api.Work) int {
	for place := w.At; place < w.At+sides; place++ {
		t.made[place]++
	}
	// The work is counted as made and as left here, since pairs hang in its places.
	hanging := 0
	for place, made := range t.made {
		if made > 0 && t.left[place] > 0 {
			hanging++
		}
	}
	for place := w.At; place < w.At+sides; place++ {
		t.left[place]--
	}
	return hanging
}
