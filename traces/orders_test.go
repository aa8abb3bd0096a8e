package traces_test

import (
	"math"
	"math/rand"
	"slices"
	"testing"

	"torchon/api"
	"torchon/sheet"
	"torchon/traces"
)

// P5.4 and the chapter's examples: Orders, Nth and Rank.
func TestOrders(t *testing.T) {
	for _, c := range []struct {
		s    api.Sheet
		want [][]int
	}{
		{exampleA(), [][]int{{0, 1, 2}, {1, 0, 2}}},
		{exampleB(), [][]int{{0, 1, 2}, {1, 0, 2}}},
		{api.Sheet{Pairs: 2}, [][]int{{}}},
		{halves(3, 1), [][]int{{0}}},
		{halves(3, 0, 1, 0, 1), [][]int{{0, 1, 2, 3}}},
		{halves(6, 4, 2, 0), [][]int{{0, 1, 2}, {0, 2, 1}, {1, 0, 2}, {1, 2, 0}, {2, 0, 1}, {2, 1, 0}}},
		{halves(4, 0, 2, 0, 2), [][]int{{0, 1, 2, 3}, {0, 1, 3, 2}, {0, 2, 1, 3}, {1, 0, 2, 3}, {1, 0, 3, 2}, {1, 3, 0, 2}}},
		{halves(5, 0, 3, 1, 3), [][]int{{0, 1, 2, 3}, {0, 1, 3, 2}, {0, 2, 1, 3}, {1, 0, 2, 3}, {1, 0, 3, 2}, {1, 3, 0, 2}}},
		{halves(6, 4, 0, 1, 3), [][]int{{0, 1, 2, 3}, {0, 3, 1, 2}, {0, 1, 3, 2}, {1, 0, 2, 3}, {1, 0, 3, 2}, {1, 2, 0, 3}}},
	} {
		slices.SortFunc(c.want, slices.Compare)
		if n, e := traces.Orders(c.s); n != int64(len(c.want)) || e != api.OK {
			t.Errorf("Orders of %v: %d, %d, want %d", c.s, n, e, len(c.want))
		}
		for k, order := range c.want {
			if l, e := traces.Nth(c.s, int64(k)); !slices.Equal(l, order) || e != api.OK {
				t.Errorf("Nth %d of %v: %v, %d, want %v", k, c.s, l, e, order)
			}
			if n, e := traces.Rank(c.s, order); n != int64(k) || e != api.OK {
				t.Errorf("Rank of %v in %v: %d, %d, want %d", order, c.s, n, e, k)
			}
		}
		noNumbers(t, c.s, int64(len(c.want)))
	}
}

// noNumbers checks what Nth returns for numbers that no order of a sheet with so many orders has.
func noNumbers(t *testing.T, s api.Sheet, many int64) {
	t.Helper()
	for _, k := range []int64{many, many + 1, math.MaxInt64} {
		if l, e := traces.Nth(s, k); len(l) > 0 || e != api.ErrNone {
			t.Errorf("Nth %d of %v: %v, %d", k, s, l, e)
		}
	}
	for _, k := range []int64{-1, -many, math.MinInt64} {
		if l, e := traces.Nth(s, k); len(l) > 0 || e != api.ErrRange {
			t.Errorf("Nth %d of %v: %v, %d", k, s, l, e)
		}
	}
}

// P5.4: Rank of lists that are no orders.
func TestRankOfOtherLists(t *testing.T) {
	for _, order := range [][]int{
		nil, {}, {0}, {0, 1}, {2, 0, 1}, {0, 2, 1}, {2, 1, 0}, {0, 1, 1}, {0, 0, 1}, {0, 1, 3}, {-1, 0, 1}, {0, 1, -1},
		{0, 1, 2, 2}, {0, 1, 2, 3}, {0, 1, 16}, {0, 1, 64}, {math.MinInt, 0, 1}, {0, 1, math.MaxInt}, upTo(400), upTo(500),
	} {
		if n, e := traces.Rank(exampleA(), order); n != 0 || e != api.ErrNone {
			t.Errorf("Rank of %v: %d, %d", order, n, e)
		}
	}
	for _, order := range [][]int{{0}, {-1}, {0, 1, 2}} {
		if n, e := traces.Rank(api.Sheet{Pairs: 2}, order); n != 0 || e != api.ErrNone {
			t.Errorf("Rank of %v without works: %d, %d", order, n, e)
		}
	}
	for _, none := range [][]int{nil, {}} {
		if n, e := traces.Rank(api.Sheet{Pairs: 2}, none); n != 0 || e != api.OK {
			t.Errorf("Rank without works: %d, %d", n, e)
		}
	}
}

// P5.4 and P5.8: Orders, Nth and Rank of many sheets, against all exchanges.
func TestOrdersOfSheets(t *testing.T) {
	manySheets(func(s api.Sheet) {
		var all [][]int
		for _, x := range pieces(s) {
			all = append(all, x.order)
		}
		slices.SortFunc(all, slices.Compare)
		if n, e := traces.Orders(s); n != int64(len(all)) || e != api.OK {
			t.Fatalf("Orders of %v: %d, %d, want %d", s, n, e, len(all))
		}
		for k, order := range all {
			if l, e := traces.Nth(s, int64(k)); !slices.Equal(l, order) || e != api.OK {
				t.Fatalf("Nth %d of %v: %v, %d, want %v", k, s, l, e, order)
			}
			if n, e := traces.Rank(s, order); n != int64(k) || e != api.OK {
				t.Fatalf("Rank of %v in %v: %d, %d, want %d", order, s, n, e, k)
			}
		}
		noNumbers(t, s, int64(len(all)))
	})
}

// P5.4: 16 works are counted, 17 are not.
func TestWorksThatAreCounted(t *testing.T) {
	few, many := halves(3, make([]int, 16)...), halves(3, make([]int, 17)...)
	if n, e := traces.Orders(few); n != 1 || e != api.OK {
		t.Errorf("Orders of 16 works: %d, %d", n, e)
	}
	if l, e := traces.Nth(few, 0); !slices.Equal(l, upTo(16)) || e != api.OK {
		t.Errorf("Nth 0 of 16 works: %v, %d", l, e)
	}
	if n, e := traces.Rank(few, upTo(16)); n != 0 || e != api.OK {
		t.Errorf("Rank of 16 works: %d, %d", n, e)
	}
	noNumbers(t, few, 1)
	// The error is the same if there are too many orders as well, or the number or the order is wrong.
	for _, s := range []api.Sheet{many, columns(2, 2, 2, 2, 2, 2, 2, 2, 1), largest()} {
		noOrders(t, s, api.ErrLong)
	}
}

// noOrders checks that all functions return an error, whatever else is wrong.
func noOrders(t *testing.T, s api.Sheet, want api.Errno) {
	t.Helper()
	if n, e := traces.Orders(s); n != 0 || e != want {
		t.Errorf("Orders of %v: %d, %d, want %d", s, n, e, want)
	}
	for _, k := range []int64{0, 1, -1, 1000000000, math.MinInt64, math.MaxInt64} {
		if l, e := traces.Nth(s, k); len(l) > 0 || e != want {
			t.Errorf("Nth %d of %v: %v, %d, want %d", k, s, l, e, want)
		}
	}
	for _, order := range [][]int{upTo(len(s.Works)), nil, {0}, {7, -1}} {
		if n, e := traces.Rank(s, order); n != 0 || e != want {
			t.Errorf("Rank of %v in %v: %d, %d, want %d", order, s, n, e, want)
		}
	}
}

// P5.4: sheets with about 10^9 orders.
func TestOrdersThatAreCounted(t *testing.T) {
	for _, c := range []struct {
		s    api.Sheet
		want int64
	}{
		{columns(1, 1, 1, 1, 1, 1, 1, 1, 1, 1, 1, 1), 479001600},
		{columns(4, 4, 4, 4), 63063000},
		{columns(8, 8), 12870},
		{columns(15, 1), 16},
		{halves(24, 5, 2, 5, 1, 7, 5, 11, 15, 11, 3, 9, 0, 4, 2, 13), 999999000},
	} {
		if n, e := traces.Orders(c.s); n != c.want || e != api.OK {
			t.Errorf("Orders of %v: %d, %d, want %d", c.s, n, e, c.want)
		}
		first := upTo(len(c.s.Works))
		if l, e := traces.Nth(c.s, 0); !slices.Equal(l, first) || e != api.OK {
			t.Errorf("Nth 0 of %v: %v, %d", c.s, l, e)
		}
		if n, e := traces.Rank(c.s, first); n != 0 || e != api.OK {
			t.Errorf("Rank of %v in %v: %d, %d", first, c.s, n, e)
		}
		last, e := traces.Nth(c.s, c.want-1)
		if n, f := traces.Rank(c.s, last); n != c.want-1 || e != api.OK || f != api.OK {
			t.Errorf("Nth %d of %v: %v, %d; Rank %d, %d", c.want-1, c.s, last, e, n, f)
		}
		noNumbers(t, c.s, c.want)
	}
	for _, s := range []api.Sheet{
		halves(24, 15, 12, 18, 16, 16, 19, 14, 5, 9, 5, 6, 16, 0, 19, 17, 19), // 1000359360 orders
		columns(2, 1, 1, 1, 1, 1, 1, 1, 1, 1, 1, 1),
		columns(2, 2, 2, 2, 1, 1, 1, 1, 1, 1, 1, 1),
		columns(2, 2, 2, 2, 2, 2, 2, 2),
	} {
		noOrders(t, s, api.ErrFull)
	}
}

// P5.8: Nth and Rank undo each other, in sheets with more orders than can be listed; greater numbers are of greater orders.
func TestNthAndRank(t *testing.T) {
	r := rand.New(rand.NewSource(9))
	for range 60 {
		s := someSheet(r, 2+r.Intn(20), r.Intn(17))
		many, e := traces.Orders(s)
		if e == api.ErrFull {
			continue
		}
		if e != api.OK || many < 1 {
			t.Fatalf("Orders of %v: %d, %d", s, many, e)
		}
		x := shuffled(r, s)
		k, e := traces.Rank(s, x.order)
		if k < 0 || k >= many || e != api.OK {
			t.Fatalf("Rank of %v in %v: %d, %d; there are %d orders", x.order, s, k, e, many)
		}
		if l, e := traces.Nth(s, k); !slices.Equal(l, x.order) || e != api.OK {
			t.Fatalf("Nth %d of %v: %v, %d, want %v", k, s, l, e, x.order)
		}
		if k+1 < many {
			l, e := traces.Nth(s, k+1)
			if _, f := sheet.Reorder(s, l); e != api.OK || f != api.OK || slices.Compare(l, x.order) <= 0 {
				t.Fatalf("Nth %d of %v: %v, %d; before it %v", k+1, s, l, e, x.order)
			}
			if n, e := traces.Rank(s, l); n != k+1 || e != api.OK {
				t.Fatalf("Rank of %v in %v: %d, %d, want %d", l, s, n, e, k+1)
			}
		}
		noNumbers(t, s, many)
	}
}

// choices returns the number of ways to choose k of n.
func choices(n, k int) int64 {
	c := int64(1)
	for i := range k {
		c = c * int64(n-i) / int64(i+1)
	}
	return c
}

// beside returns two sheets beside each other, their works in some order that keeps that of each sheet.
func beside(r *rand.Rand, a, b api.Sheet) api.Sheet {
	both := api.Sheet{Pairs: a.Pairs + b.Pairs}
	left, right := a.Works, b.Works
	for len(left)+len(right) > 0 {
		if len(right) == 0 || len(left) > 0 && r.Intn(2) == 0 {
			both.Works = append(both.Works, left[0])
			left = left[1:]
			continue
		}
		w := right[0]
		w.At += a.Pairs
		both.Works = append(both.Works, w)
		right = right[1:]
	}
	return both
}

// P5.9: two sheets beside each other have as many orders as both have, multiplied, times the number of ways to choose the works of one of them.
func TestBesideEachOther(t *testing.T) {
	r := rand.New(rand.NewSource(10))
	for range 200 {
		a := someSheet(r, 2+r.Intn(6), r.Intn(8))
		b := someSheet(r, 2+r.Intn(6), r.Intn(8))
		both := beside(r, a, b)
		n, e := traces.Orders(a)
		m, f := traces.Orders(b)
		want := n * m * choices(len(a.Works)+len(b.Works), len(a.Works))
		if many, g := traces.Orders(both); many != want || e != api.OK || f != api.OK || g != api.OK {
			t.Fatalf("%v: %d, %d; %v: %d, %d; both: %d, %d, want %d", a, n, e, b, m, f, many, g, want)
		}
	}
}
