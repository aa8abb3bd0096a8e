package traces_test

import (
	"math/rand"
	"slices"
	"testing"

	"torchon/api"
	"torchon/sheet"
	"torchon/traces"
)

// P5.2 and the chapter's examples: Least and Levels.
func TestLeastAndLevels(t *testing.T) {
	for _, c := range []struct {
		s             api.Sheet
		least, levels []int
	}{
		{exampleA(), []int{0, 1, 2}, []int{0, 0, 1}},
		{exampleB(), []int{1, 0, 2}, []int{0, 0, 1}},
		{api.Sheet{Pairs: 2}, nil, nil},
		{api.Sheet{Pairs: 24, Works: []api.Work{}}, nil, nil},
		{halves(2, 0, 0, 0), []int{0, 1, 2}, []int{0, 1, 2}},
		{halves(6, 4, 2, 0), []int{2, 1, 0}, []int{0, 0, 0}},
		// A work becomes ready to the left of the one that is done, beside it, or to the right of it.
		{halves(4, 2, 1, 0), []int{0, 1, 2}, []int{0, 1, 2}},
		{halves(6, 4, 2, 1, 4, 0, 3), []int{1, 2, 4, 0, 3, 5}, []int{0, 0, 1, 1, 2, 2}},
		{halves(5, 0, 1, 2, 3, 0), []int{0, 1, 4, 2, 3}, []int{0, 1, 2, 3, 2}},
		{halves(5, 3, 0, 3, 0), []int{1, 3, 0, 2}, []int{0, 0, 1, 1}},
		// The level is by the greatest level before a work, on either side, and not by the last work.
		{halves(4, 0, 0, 0, 2, 1), []int{0, 1, 2, 3, 4}, []int{0, 1, 2, 0, 3}},
		{halves(4, 2, 2, 2, 0, 1), []int{3, 0, 1, 2, 4}, []int{0, 1, 2, 0, 3}},
		{halves(24, 22, 21, 0), []int{2, 0, 1}, []int{0, 1, 0}},
	} {
		if l, e := traces.Least(c.s); !slices.Equal(l, c.least) || e != api.OK {
			t.Errorf("Least of %v: %v, %d, want %v", c.s, l, e, c.least)
		}
		if l, e := traces.Levels(c.s); !slices.Equal(l, c.levels) || e != api.OK {
			t.Errorf("Levels of %v: %v, %d, want %v", c.s, l, e, c.levels)
		}
	}
}

// leastOrder does, of the works that are ready, the one with the least At.
func leastOrder(s api.Sheet) []int {
	var order []int
	for range s.Works {
		ready, _ := sheet.Ready(s, slices.Sorted(slices.Values(order)))
		order = append(order, slices.MinFunc(ready, func(i, k int) int { return s.Works[i].At - s.Works[k].At }))
	}
	return order
}

// levelsOf returns the levels, by the definition.
func levelsOf(s api.Sheet) []int {
	levels := make([]int, len(s.Works))
	for b := range levels {
		for a := range b {
			if before, _ := sheet.Before(s, a, b); before {
				levels[b] = max(levels[b], levels[a]+1)
			}
		}
	}
	return levels
}

// P5.2: Least and Levels, against the definitions.
func TestLeastAndLevelsOfSheets(t *testing.T) {
	check := func(s api.Sheet) {
		if l, e := traces.Least(s); !slices.Equal(l, leastOrder(s)) || e != api.OK {
			t.Fatalf("Least of %v: %v, %d, want %v", s, l, e, leastOrder(s))
		}
		if l, e := traces.Levels(s); !slices.Equal(l, levelsOf(s)) || e != api.OK {
			t.Fatalf("Levels of %v: %v, %d, want %v", s, l, e, levelsOf(s))
		}
	}
	manySheets(check)
	r := rand.New(rand.NewSource(3))
	for range 60 {
		check(someSheet(r, 2+r.Intn(23), r.Intn(60)))
	}
}

// P5.6: exchanges lead to the same lace, the same sheet in the least order, and the same levels, work by work.
func TestExchanges(t *testing.T) {
	r := rand.New(rand.NewSource(4))
	for range 60 {
		s := someSheet(r, 2+r.Intn(23), r.Intn(100))
		x := shuffled(r, s)
		if same, e := traces.Same(s, x.sheet); !same || e != api.OK {
			t.Fatalf("Same of %v and %v: %v, %d", s, x.sheet, same, e)
		}
		if l, e := traces.Match(s, x.sheet); !slices.Equal(l, x.order) || e != api.OK {
			t.Fatalf("Match of %v and %v: %v, %d", s, x.sheet, l, e)
		}
		least, _ := traces.Least(s)
		again, _ := traces.Least(x.sheet)
		a, e := sheet.Reorder(s, least)
		b, f := sheet.Reorder(x.sheet, again)
		if e != api.OK || f != api.OK || !slices.Equal(a.Works, b.Works) {
			t.Fatalf("%v in the least order: %v, %d; with exchanges %v, %d", s, a, e, b, f)
		}
		levels, _ := traces.Levels(s)
		now, _ := traces.Levels(x.sheet)
		for k, i := range x.order {
			if now[k] != levels[i] {
				t.Fatalf("%v: levels %v; in the order %v: %v", s, levels, x.order, now)
			}
		}
	}
}

// P5.6: if one work is changed, it is not the same lace any more.
func TestChangedWorks(t *testing.T) {
	r := rand.New(rand.NewSource(5))
	for range 100 {
		s := someSheet(r, 3+r.Intn(10), 1+r.Intn(30))
		x := shuffled(r, s).sheet
		i := r.Intn(len(x.Works))
		old := x.Works[i]
		for _, w := range []api.Work{stitch(old.At, old.Word+"C"), stitch((old.At+1)%(s.Pairs-1), old.Word), stitch(old.At, "CLRC"), {Kind: api.WkStitch + api.WkSew - old.Kind, At: old.At}} {
			x.Works[i] = w
			if same, e := traces.Same(s, x); same || e != api.OK {
				t.Errorf("Same of %v and %v: %v, %d", s, x, same, e)
			}
			if l, e := traces.Match(x, s); len(l) > 0 || e != api.ErrNone {
				t.Errorf("Match of %v and %v: %v, %d", x, s, l, e)
			}
		}
	}
}

// P5.8: works of the same level do not touch; each work of a level above 0 touches an earlier one of the level below.
func TestWorksOfLevels(t *testing.T) {
	r := rand.New(rand.NewSource(6))
	for range 60 {
		s := someSheet(r, 2+r.Intn(23), r.Intn(100))
		levels, e := traces.Levels(s)
		if e != api.OK || len(levels) != len(s.Works) {
			t.Fatalf("Levels of %v: %v, %d", s, levels, e)
		}
		for b, level := range levels {
			below := level == 0
			for a := range b {
				if touching(s.Works[a], s.Works[b]) {
					below = below || levels[a] == level-1
					if levels[a] == level {
						t.Fatalf("%v: %d and %d touch, and have the level %d", s, a, b, level)
					}
				}
			}
			if !below {
				t.Fatalf("%v: %d has the level %d, and touches none of the level below", s, b, level)
			}
		}
	}
}
