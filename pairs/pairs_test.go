package pairs_test

import (
	"math"
	"slices"
	"testing"

	"torchon/api"
	"torchon/pairs"
)

// example is the sheet of the chapter's examples.
func example() api.Sheet {
	return api.Sheet{Pairs: 4, Works: []api.Work{stitch(0, "CTC"), stitch(2, "CTC"), stitch(0, "CTC"), stitch(2, "CTC")}}
}

// staircase returns the places from 0 to n - 1, and back again.
func staircase(n int) []int {
	down := upTo(n)
	back := slices.Clone(down)
	slices.Reverse(back)
	return append(down, back[1:]...)
}

// bricks returns so many rows of works: at even places, at odd places, and so on.
func bricks(pairs, rows int) api.Sheet {
	var at []int
	for row := range rows {
		for place := row % 2; place < pairs-1; place += 2 {
			at = append(at, place)
		}
	}
	return sheetOf(pairs, at...)
}

// P12.1 and the chapter's example: Hanging.
func TestHanging(t *testing.T) {
	for _, c := range []struct {
		s     api.Sheet
		order []int
		want  []int
		need  int
	}{
		{example(), []int{0, 1, 2, 3}, []int{2, 4, 4, 2}, 4},
		{example(), []int{0, 2, 1, 3}, []int{2, 2, 2, 2}, 2},
		{example(), []int{1, 0, 3, 2}, []int{2, 4, 4, 2}, 4},
		{api.Sheet{Pairs: 2}, nil, nil, 0},
		{api.Sheet{Pairs: 24}, []int{}, nil, 0},
		{sheetOf(2, 0), []int{0}, []int{2}, 2},
		{sheetOf(24, 22), []int{0}, []int{2}, 2},
		{api.Sheet{Pairs: 3, Works: []api.Work{sew(1)}}, []int{0}, []int{2}, 2},
		// A pair hangs also while works elsewhere are made, but neither before the first one nor after the last one in its place.
		{sheetOf(3, 0, 1, 0), []int{0, 1, 2}, []int{2, 3, 2}, 3},
		{sheetOf(3, 0, 1), []int{0, 1}, []int{2, 2}, 2},
		{sheetOf(4, 0, 2, 1), []int{0, 1, 2}, []int{2, 3, 2}, 3},
		{sheetOf(4, 0, 2, 1), []int{1, 0, 2}, []int{2, 3, 2}, 3},
		{sheetOf(6, 0, 4, 2, 4, 0), []int{0, 1, 2, 3, 4}, []int{2, 4, 6, 4, 2}, 6},
		{sheetOf(6, 0, 4, 2, 4, 0), []int{2, 0, 4, 1, 3}, []int{2, 2, 2, 2, 2}, 2},
		{sheetOf(6, 0, 4, 2, 4, 0), []int{0, 2, 1, 4, 3}, []int{2, 4, 4, 4, 2}, 4},
		// The numbers are in the order, not in that of the sheet.
		{sheetOf(5, 0, 2, 3, 2), []int{1, 2, 3, 0}, []int{2, 3, 2, 2}, 3},
		{sheetOf(5, 0, 2, 3, 2), []int{0, 1, 2, 3}, []int{2, 2, 3, 2}, 3},
	} {
		if l, need, e := pairs.Hanging(c.s, c.order); e != api.OK || need != c.need || !slices.Equal(l, c.want) {
			t.Errorf("Hanging of %v, %v: %v, %d, %d", c.s, c.order, l, need, e)
		}
	}
}

// P12.1: the limits just reached: 400 works, and 24 pairs that all hang.
func TestHangingOfLargest(t *testing.T) {
	l, need, e := pairs.Hanging(sheetOf(2, make([]int, 400)...), upTo(400))
	if e != api.OK || need != 2 || !slices.Equal(l, slices.Repeat([]int{2}, 400)) {
		t.Errorf("400 works: %v, %d, %d", l, need, e)
	}
	s := sheetOf(24, staircase(23)...)
	l, need, e = pairs.Hanging(s, upTo(45))
	if e != api.OK || need != 24 || len(l) != 45 || l[22] != 24 || l[21] != 23 || l[23] != 23 || l[0] != 2 || l[44] != 2 {
		t.Errorf("a staircase: %v, %d, %d", l, need, e)
	}
	s = sheetOf(24, upTo(23)...)
	if l, need, e := pairs.Hanging(s, upTo(23)); e != api.OK || need != 2 || !slices.Equal(l, slices.Repeat([]int{2}, 23)) {
		t.Errorf("half of it: %v, %d, %d", l, need, e)
	}
}

// P12.1 and P12.4: ErrNone for what is no order.
func TestNoOrders(t *testing.T) {
	check := func(s api.Sheet, order []int) {
		t.Helper()
		if l, need, e := pairs.Hanging(s, order); e != api.ErrNone || need != 0 || len(l) > 0 {
			t.Errorf("Hanging of %v, %v: %v, %d, %d", s, order, l, need, e)
		}
		if l, e := pairs.Share(s, order); e != api.ErrNone || len(l) > 0 {
			t.Errorf("Share of %v, %v: %v, %d", s, order, l, e)
		}
	}
	for _, order := range [][]int{
		nil, {}, {0},
		{0, 1, 2},       // one is missing
		{0, 1, 2, 3, 3}, // one is there twice
		{0, 1, 2, 2},
		{0, 1, 2, 4}, // no index
		{0, 1, 2, -1},
		{-1, 0, 1, 2, 3},
		{0, 1, 2, 3, 4},
		{math.MinInt, 1, 2, math.MaxInt},
		{2, 1, 0, 3}, // 0 is before 2
		{0, 3, 2, 1}, // 1 is before 3
		{3, 2, 1, 0},
	} {
		check(example(), order)
	}
	check(sheetOf(4, 0, 1, 2), []int{0, 2, 1})
	check(sheetOf(4, 0, 1, 2), []int{2, 0, 1}) // by way of 1
	check(api.Sheet{Pairs: 2}, []int{0})
	check(sheetOf(2, make([]int, 400)...), append(upTo(399), 400))
	check(sheetOf(2, make([]int, 400)...), append(upTo(398), 399, 398))
}

// P12.1 and P12.4: Hanging and Share in all orders, and in what is none, of many sheets, against the definitions.
func TestEveryList(t *testing.T) {
	manySheets(5, func(s api.Sheet) {
		before := beforeTable(s)
		everyList(len(s.Works), func(order []int) {
			l, need, e := pairs.Hanging(s, order)
			shared, f := pairs.Share(s, order)
			if !isOrder(before, order) {
				if e != api.ErrNone || f != api.ErrNone || need != 0 || len(l)+len(shared) > 0 {
					t.Fatalf("%v in the order %v: %v, %d, %d and %v, %d", s, order, l, need, e, shared, f)
				}
				return
			}
			if want, most := hangingOf(s, order); e != api.OK || need != most || !slices.Equal(l, want) {
				t.Fatalf("Hanging of %v, %v: %v, %d, %d, want %v, %d", s, order, l, need, e, want, most)
			}
			if want := shareOf(s, order); f != api.OK || !slices.Equal(shared, want) {
				t.Fatalf("Share of %v, %v: %v, %d, want %v", s, order, shared, f, want)
			}
		})
	})
}

// P12.4 and the chapter's example: Share.
func TestShare(t *testing.T) {
	for _, c := range []struct {
		s           api.Sheet
		order, want []int
	}{
		{example(), []int{0, 1, 2, 3}, []int{0, 1, 2, 3}},
		{example(), []int{0, 2, 1, 3}, []int{0, 1, 0, 1}},
		{example(), []int{1, 0, 2, 3}, []int{2, 3, 0, 1}},
		{api.Sheet{Pairs: 2}, nil, []int{-1, -1}},
		{api.Sheet{Pairs: 24}, []int{}, slices.Repeat([]int{-1}, 24)},
		{sheetOf(5, 1), []int{0}, []int{-1, 0, 1, -1, -1}},
		{sheetOf(5, 3, 0), []int{0, 1}, []int{0, 1, -1, 0, 1}},
		// A number is free after the last work in its place, and not while that is made.
		{sheetOf(3, 0, 1), []int{0, 1}, []int{0, 1, 0}},
		{sheetOf(3, 1, 0), []int{0, 1}, []int{1, 0, 1}},
		{sheetOf(3, 0, 0, 1), []int{0, 1, 2}, []int{0, 1, 0}},
		{sheetOf(3, 0, 1, 0), []int{0, 1, 2}, []int{0, 1, 2}},
		{sheetOf(4, 0, 1, 2), []int{0, 1, 2}, []int{0, 1, 0, 1}},
		// The least number that is free, also below others that are not; one place alone gets one, on either side.
		{sheetOf(6, 0, 2, 1, 4, 3), []int{0, 1, 2, 3, 4}, []int{0, 1, 0, 2, 0, 1}},
		{sheetOf(6, 0, 1, 4, 2), []int{0, 1, 2, 3}, []int{0, 1, 0, 1, 1, 2}},
		{sheetOf(6, 0, 1, 4, 2), []int{2, 0, 1, 3}, []int{0, 1, 0, 1, 0, 1}},
		{sheetOf(7, 2, 0, 2, 5, 0), []int{0, 1, 2, 3, 4}, []int{2, 3, 0, 1, -1, 0, 1}},
		{sheetOf(7, 2, 0, 2, 5, 1), []int{0, 1, 2, 3, 4}, []int{2, 3, 0, 1, -1, 1, 2}},
		{sheetOf(24, upTo(23)...), upTo(23), slices.Repeat([]int{0, 1}, 12)},
		{sheetOf(24, staircase(23)...), upTo(45), upTo(24)},
		{sheetOf(2, make([]int, 400)...), upTo(400), []int{0, 1}},
	} {
		if l, e := pairs.Share(c.s, c.order); e != api.OK || !slices.Equal(l, c.want) {
			t.Errorf("Share of %v, %v: %v, %d, want %v", c.s, c.order, l, e, c.want)
		}
	}
}

// P12.2 and the chapter's example: Fewest, with the limit just reached and just exceeded.
func TestFewest(t *testing.T) {
	for _, c := range []struct {
		s    api.Sheet
		want []int
		need int
	}{
		{example(), []int{0, 2, 1, 3}, 2},
		{api.Sheet{Pairs: 2}, nil, 0},
		{api.Sheet{Pairs: 24, Works: []api.Work{}}, nil, 0},
		{sheetOf(2, 0), []int{0}, 2},
		{api.Sheet{Pairs: 24, Works: []api.Work{sew(22)}}, []int{0}, 2},
		{sheetOf(3, 0, 1, 0), []int{0, 1, 2}, 3},
		{sheetOf(4, 0, 2, 1), []int{0, 1, 2}, 3},
		{sheetOf(6, 0, 2, 4, 1, 3), []int{0, 1, 3, 2, 4}, 3},
		// The work 0 is not the first one: while 2 is made, the pair that it leaves may not hang.
		{sheetOf(6, 4, 0, 1, 0, 2, 3), []int{1, 2, 3, 0, 4, 5}, 3},
		// Where some works need 4 pairs at the same time in any order, the others need not be thrifty.
		{sheetOf(8, 0, 2, 0, 2, 4, 6, 5, 4, 6), upTo(9), 4},
		{sheetOf(8, 4, 6, 5, 0, 2, 4, 0, 2, 6), []int{0, 1, 2, 5, 3, 6, 4, 7, 8}, 4},
		{sheetOf(2, make([]int, 14)...), upTo(14), 2},
		{sheetOf(4, 0, 2, 0, 2, 0, 2, 0, 2, 0, 2, 0, 2, 0, 2), []int{0, 2, 4, 6, 8, 10, 12, 1, 3, 5, 7, 9, 11, 13}, 2},
		{sheetOf(24, 22, 20, 18, 16, 14, 12, 10, 8, 6, 4, 2, 0), upTo(12), 2},
		{sheetOf(24, 22, 20, 18, 16, 14, 12, 10, 8, 6, 4, 2, 0, 0, 22), []int{0, 13, 1, 2, 3, 4, 5, 6, 7, 8, 9, 10, 11, 12}, 2},
	} {
		if l, need, e := pairs.Fewest(c.s); e != api.OK || need != c.need || !slices.Equal(l, c.want) {
			t.Errorf("Fewest of %v: %v, %d, %d, want %v, %d", c.s, l, need, e, c.want, c.need)
		}
	}
	for _, n := range []int{15, 16, 17, 32, 64, 65, 399, 400} {
		for _, s := range []api.Sheet{sheetOf(2, make([]int, n)...), sheetOf(24, slices.Repeat([]int{0, 2, 4, 6, 22}, 80)[:n]...)} {
			if l, need, e := pairs.Fewest(s); e != api.ErrLong || need != 0 || len(l) > 0 {
				t.Errorf("Fewest of %d works: %v, %d, %d", n, l, need, e)
			}
		}
	}
}

// P12.3 and the chapter's example: Bound.
func TestBound(t *testing.T) {
	for _, c := range []struct {
		s      api.Sheet
		work   int
		places []int
	}{
		{example(), 0, []int{0, 1}},
		{sheetOf(2, 0), 0, []int{0, 1}},
		{sheetOf(24, 22), 0, []int{22, 23}},
		{api.Sheet{Pairs: 24, Works: []api.Work{sew(11)}}, 0, []int{11, 12}},
		// What is taken before a work alone, or after it alone, does not count.
		{sheetOf(5, 3, 0, 1, 2), 0, []int{3, 4}},
		{sheetOf(4, 0, 1, 2), 0, []int{0, 1}},
		{sheetOf(3, 0, 1, 0), 1, []int{0, 1, 2}},
		{sheetOf(4, 0, 2, 1, 0, 2), 2, []int{0, 1, 2, 3}},
		{sheetOf(4, 0, 2, 1, 0), 2, []int{0, 1, 2}},
		{sheetOf(4, 0, 2, 1, 2), 2, []int{1, 2, 3}},
		{sheetOf(4, 0, 1, 0, 2), 1, []int{0, 1, 2}},
		// Works that are before others by way of further ones.
		{sheetOf(6, 0, 1, 2, 3, 4, 3, 2, 1, 0), 4, []int{0, 1, 2, 3, 4, 5}},
		{sheetOf(6, 4, 3, 2, 1, 0, 1, 2, 3, 4), 4, []int{0, 1, 2, 3, 4, 5}},
		// Of several with the most places, that with the least work; it need not be the first mark, nor the last one.
		{sheetOf(7, 5, 0, 1, 0, 4, 3, 4), 2, []int{0, 1, 2}},
		{sheetOf(7, 5, 3, 4, 3, 0, 1, 0), 2, []int{3, 4, 5}},
		{sheetOf(7, 4, 5, 4, 0, 1, 0, 0), 1, []int{4, 5, 6}},
		{sheetOf(24, staircase(23)...), 22, upTo(24)},
		{sheetOf(2, make([]int, 400)...), 0, []int{0, 1}},
	} {
		if m, e := pairs.Bound(c.s); e != api.OK || m.Work != c.work || !slices.Equal(m.Places, c.places) {
			t.Errorf("Bound of %v: %v, %d, want %d, %v", c.s, m, e, c.work, c.places)
		}
	}
	for _, s := range []api.Sheet{{Pairs: 2}, {Pairs: 24, Works: []api.Work{}}} {
		if m, e := pairs.Bound(s); e != api.ErrNone || m.Work != 0 || len(m.Places) > 0 {
			t.Errorf("Bound of %v: %v, %d", s, m, e)
		}
	}
}
