package sheet

import (
	"iter"
	"slices"

	"torchon/api"
)

// end stands for a work where there is none: at the top, and at the bottom.
const end = -1

// Edges returns the pairs between works.
func Edges(s api.Sheet) ([]api.ShEdge, api.Errno) {
	if e := Check(s); e != api.OK {
		return nil, e
	}
	return slices.Collect(edges(s)), api.OK
}

// edges yields the edges, in their order.
func edges(s api.Sheet) iter.Seq[api.ShEdge] {
	return func(yield func(api.ShEdge) bool) {
		for place := range s.Pairs {
			if !yield(edge(s, end, place, place)) {
				return
			}
		}
		for i, w := range s.Works {
			for side := range sides {
				if !yield(edge(s, i, side, w.At+side)) {
					return
				}
			}
		}
	}
}

// edge returns the edge that is in a place after the work from.
func edge(s api.Sheet, from, out, place int) api.ShEdge {
	for to := from + 1; to < len(s.Works); to++ {
		if side := place - s.Works[to].At; 0 <= side && side < sides {
			return api.ShEdge{From: from, Out: out, To: to, In: side}
		}
	}
	return api.ShEdge{From: from, Out: out, To: end, In: place}
}

// steps yields the edges from one work to another one. They lead from each work to all that are after it.
func steps(s api.Sheet) iter.Seq[api.ShEdge] {
	return func(yield func(api.ShEdge) bool) {
		for step := range edges(s) {
			if step.From != end && step.To != end && !yield(step) {
				return
			}
		}
	}
}

// edgeOf returns the index of the edge after a work on one side of it.
func edgeOf(s api.Sheet, work, side int) int {
	return s.Pairs + sides*work + side
}
