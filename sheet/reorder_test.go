package sheet_test

import (
	"math"
	"math/rand"
	"slices"
	"testing"

	"torchon/api"
	"torchon/sheet"
)

// P4.5 and the chapter's example: Reorder, with all its errors.
func TestReorder(t *testing.T) {
	works := []api.Work{stitch(0, "C"), stitch(2, "T"), stitch(1, "L"), stitch(0, "R"), stitch(2, "P"), sew(1)}
	s := api.Sheet{Pairs: 4, Works: works}
	for _, order := range [][]int{{0, 1, 2, 3, 4, 5}, {1, 0, 2, 3, 4, 5}, {0, 1, 2, 4, 3, 5}, {1, 0, 2, 4, 3, 5}} {
		want := make([]api.Work, 0, len(order))
		for _, i := range order {
			want = append(want, works[i])
		}
		if x, e := sheet.Reorder(s, order); e != api.OK || x.Pairs != 4 || !slices.Equal(x.Works, want) {
			t.Errorf("Reorder %v: %v, %d", order, x, e)
		}
	}
	for _, order := range [][]int{
		nil,
		{0},
		{0, 1, 2, 3, 4},          // one is missing
		{0, 1, 2, 3, 4, 5, 5},    // one is there twice, behind the others
		{0, 1, 2, 3, 4, 5, 6},    // one too many
		{0, 1, 2, 3, 5, 5},       // one is there twice instead of another one
		{0, 0, 1, 2, 3, 4},       // likewise
		{0, 1, 2, 3, 4, 6},       // no index
		{0, 1, 2, 3, 4, -1},      // no index
		{-1, 0, 1, 2, 3, 4, 5},   // likewise
		{0, 1, 2, 3, 4, 1 << 40}, // likewise
		{math.MinInt, 1, 2, 3, 4, math.MaxInt},
		{0, 2, 1, 3, 4, 5}, // 1 is before 2
		{0, 1, 3, 2, 4, 5}, // 2 is before 3
		{5, 0, 1, 2, 3, 4},
		{5, 4, 3, 2, 1, 0},
		{0, 3, 1, 2, 4, 5}, // 3 is after 0, but also after 2
	} {
		if x, e := sheet.Reorder(s, order); e != api.ErrNone || x.Pairs != 0 || len(x.Works) != 0 {
			t.Errorf("Reorder %v: %v, %d", order, x, e)
		}
	}
	if x, e := sheet.Reorder(example(), []int{1, 0, 2}); e != api.ErrNone || x.Pairs != 0 || len(x.Works) != 0 {
		t.Errorf("the chapter's example: %v, %d", x, e)
	}
	for _, order := range [][]int{nil, {}} {
		if x, e := sheet.Reorder(api.Sheet{Pairs: 5}, order); e != api.OK || x.Pairs != 5 || len(x.Works) != 0 {
			t.Errorf("without works: %v, %d", x, e)
		}
	}
	if x, e := sheet.Reorder(api.Sheet{Pairs: 5}, []int{0}); e != api.ErrNone || x.Pairs != 0 {
		t.Errorf("without works, in the order 0: %v, %d", x, e)
	}
}

// everyList calls with all lists of n numbers below n.
func everyList(n int, call func(l []int)) {
	var grow func(l []int)
	grow = func(l []int) {
		if len(l) == n {
			call(l)
			return
		}
		for i := range n {
			grow(append(slices.Clone(l), i))
		}
	}
	grow(nil)
}

// hasTwice returns whether a number is twice in a list.
func hasTwice(l []int) bool {
	l = slices.Clone(l)
	slices.Sort(l)
	return len(slices.Compact(l)) < len(l)
}

// comesTooEarly returns whether a work comes in a list before one that is before it.
func comesTooEarly(before [][]bool, order []int) bool {
	for k, b := range order {
		for _, a := range order[k+1:] {
			if before[a][b] {
				return true
			}
		}
	}
	return false
}

// P4.5: Reorder in all orders, and in what is none, of many sheets, against the definition.
func TestEveryOrder(t *testing.T) {
	manySheets(5, func(s api.Sheet) {
		before := beforeTable(s)
		everyList(len(s.Works), func(order []int) {
			x, e := sheet.Reorder(s, order)
			if hasTwice(order) || comesTooEarly(before, order) {
				if e != api.ErrNone || x.Pairs != 0 || len(x.Works) != 0 {
					t.Fatalf("%v in the order %v: %v, %d", s, order, x, e)
				}
				return
			}
			if e != api.OK || x.Pairs != s.Pairs || len(x.Works) != len(order) {
				t.Fatalf("%v in the order %v: %v, %d", s, order, x, e)
			}
			for k, i := range order {
				if x.Works[k] != s.Works[i] {
					t.Fatalf("%v in the order %v: %v", s, order, x)
				}
			}
		})
	})
}

// someOrder returns an order of a sheet, which depends on r alone: neighbours that do not touch are exchanged again and again.
func someOrder(r *rand.Rand, s api.Sheet) []int {
	order := make([]int, len(s.Works))
	for i := range order {
		order[i] = i
	}
	for range 20 * len(order) {
		k := r.Intn(len(order) - 1)
		if !touching(s.Works[order[k]], s.Works[order[k+1]]) {
			order[k], order[k+1] = order[k+1], order[k]
		}
	}
	return order
}

// P4.5: orders of large sheets; two neighbours that touch, exchanged, make none of them.
func TestLongOrders(t *testing.T) {
	r := rand.New(rand.NewSource(5))
	for range 30 {
		s := someSheet(r, 24, 400)
		order := someOrder(r, s)
		x, e := sheet.Reorder(s, order)
		if e != api.OK {
			t.Fatalf("%v in the order %v: %d", s, order, e)
		}
		for k, i := range order {
			if x.Works[k] != s.Works[i] {
				t.Fatalf("%v in the order %v: %v", s, order, x)
			}
		}
		for k := range len(order) - 1 {
			order[k], order[k+1] = order[k+1], order[k]
			want := api.OK
			if touching(s.Works[order[k]], s.Works[order[k+1]]) {
				want = api.ErrNone
			}
			if _, e := sheet.Reorder(s, order); e != want {
				t.Fatalf("%v in the order %v: %d", s, order, e)
			}
			order[k], order[k+1] = order[k+1], order[k]
		}
	}
}

// P4.6: the sheet in an order has the same edges, if works are meant by their indices in the sheet.
func TestEdgesOfOrders(t *testing.T) {
	r := rand.New(rand.NewSource(6))
	for range 200 {
		s := someSheet(r, 2+r.Intn(6), 2+r.Intn(30))
		order := someOrder(r, s)
		x, e := sheet.Reorder(s, order)
		if e != api.OK {
			t.Fatalf("%v in the order %v: %d", s, order, e)
		}
		name := func(i int) int {
			if i < 0 {
				return i
			}
			return order[i]
		}
		edges, _ := sheet.Edges(s)
		again, _ := sheet.Edges(x)
		if len(edges) != len(again) || len(edges) != s.Pairs+2*len(order) {
			t.Fatalf("%v: %d edges, and %d", s, len(edges), len(again))
		}
		for _, edge := range again {
			edge.From, edge.To = name(edge.From), name(edge.To)
			if !slices.Contains(edges, edge) {
				t.Fatalf("%v in the order %v: %v is a new edge", s, order, edge)
			}
		}
	}
}
