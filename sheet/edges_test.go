package sheet_test

import (
	"slices"
	"testing"

	"torchon/api"
	"torchon/sheet"
)

// P4.2 and the chapter's example: Edges.
func TestEdges(t *testing.T) {
	for _, c := range []struct {
		s    api.Sheet
		want []api.ShEdge
	}{
		{example(), []api.ShEdge{
			{From: -1, Out: 0, To: 0, In: 0},
			{From: -1, Out: 1, To: 0, In: 1},
			{From: -1, Out: 2, To: 1, In: 1},
			{From: 0, Out: 0, To: 2, In: 0},
			{From: 0, Out: 1, To: 1, In: 0},
			{From: 1, Out: 0, To: 2, In: 1},
			{From: 1, Out: 1, To: -1, In: 2},
			{From: 2, Out: 0, To: -1, In: 0},
			{From: 2, Out: 1, To: -1, In: 1},
		}},
		// Without works, all pairs hang from the top to the bottom.
		{api.Sheet{Pairs: 3}, []api.ShEdge{{From: -1, Out: 0, To: -1, In: 0}, {From: -1, Out: 1, To: -1, In: 1}, {From: -1, Out: 2, To: -1, In: 2}}},
		// Sewings have edges like stitches, and places that no work takes have one.
		{api.Sheet{Pairs: 4, Works: []api.Work{sew(2), sew(2)}}, []api.ShEdge{
			{From: -1, Out: 0, To: -1, In: 0},
			{From: -1, Out: 1, To: -1, In: 1},
			{From: -1, Out: 2, To: 0, In: 0},
			{From: -1, Out: 3, To: 0, In: 1},
			{From: 0, Out: 0, To: 1, In: 0},
			{From: 0, Out: 1, To: 1, In: 1},
			{From: 1, Out: 0, To: -1, In: 2},
			{From: 1, Out: 1, To: -1, In: 3},
		}},
		{sheetOf(4, 2, 0, 1), []api.ShEdge{
			{From: -1, Out: 0, To: 1, In: 0},
			{From: -1, Out: 1, To: 1, In: 1},
			{From: -1, Out: 2, To: 0, In: 0},
			{From: -1, Out: 3, To: 0, In: 1},
			{From: 0, Out: 0, To: 2, In: 1},
			{From: 0, Out: 1, To: -1, In: 3},
			{From: 1, Out: 0, To: -1, In: 0},
			{From: 1, Out: 1, To: 2, In: 0},
			{From: 2, Out: 0, To: -1, In: 1},
			{From: 2, Out: 1, To: -1, In: 2},
		}},
	} {
		if l, e := sheet.Edges(c.s); e != api.OK || !slices.Equal(l, c.want) {
			t.Errorf("%v: %v, %d, want %v", c.s, l, e, c.want)
		}
	}
}

// edgesByPairs follows the pairs from the top on: each work ends the edges in its places, and begins two.
func edgesByPairs(s api.Sheet) []api.ShEdge {
	var l []api.ShEdge
	line := make([]int, s.Pairs)
	begin := func(place, from, out int) {
		line[place] = len(l)
		l = append(l, api.ShEdge{From: from, Out: out})
	}
	finish := func(place, to, in int) {
		l[line[place]].To, l[line[place]].In = to, in
	}
	for place := range s.Pairs {
		begin(place, -1, place)
	}
	for i, w := range s.Works {
		finish(w.At, i, 0)
		finish(w.At+1, i, 1)
		begin(w.At, i, 0)
		begin(w.At+1, i, 1)
	}
	for place := range s.Pairs {
		finish(place, -1, place)
	}
	return l
}

// P4.2: Edges of many sheets, against edges that are followed from the top on.
func TestEdgesOfSheets(t *testing.T) {
	check := func(s api.Sheet) {
		if l, e := sheet.Edges(s); e != api.OK || !slices.Equal(l, edgesByPairs(s)) {
			t.Fatalf("%v: %v, %d", s, l, e)
		}
	}
	manySheets(40, check)
	check(largest())
}
