package sheet

import (
	"strings"

	"torchon/api"
)

// Reorder returns the sheet in another order.
func Reorder(s api.Sheet, order []int) (api.Sheet, api.Errno) {
	if e := Check(s); e != api.OK {
		return api.Sheet{}, e
	}
	if !isOrder(s, order) {
		return api.Sheet{}, api.ErrNone
	}
	works := make([]api.Work, 0, len(order))
	for _, i := range order {
		w := s.Works[i]
		w.Word = strings.Clone(w.Word)
		works = append(works, w)
	}
	return api.Sheet{Pairs: s.Pairs, Works: works}, api.OK
}

// isOrder returns whether a list has each work once, and none before one that is before it.
func isOrder(s api.Sheet, order []int) bool {
	if len(order) != len(s.Works) {
		return false
	}
	var seen set
	var turn [api.MaxWorks]int
	for k, i := range order {
		if !isWork(s, i) || seen.has(i) {
			return false
		}
		seen.add(i)
		turn[i] = k
	}
	for step := range steps(s) {
		if turn[step.From] > turn[step.To] {
			return false
		}
	}
	return true
}
