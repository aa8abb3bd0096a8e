package pairs_test

import (
	"math/rand"
	"slices"
	"testing"

	"torchon/api"
	"torchon/assemble"
	"torchon/pairs"
	"torchon/sheet"
)

// need returns the need of an order.
func need(t *testing.T, s api.Sheet, order []int) int {
	t.Helper()
	_, n, e := pairs.Hanging(s, order)
	if e != api.OK {
		t.Fatalf("Hanging of %v, %v: %d", s, order, e)
	}
	return n
}

// P12.5 (T2): no order has a lesser need than Fewest says, and the mark of Bound has not more places than any order needs.
func TestNoOrderNeedsFewer(t *testing.T) {
	manySheets(6, func(s api.Sheet) {
		l, least, e := pairs.Fewest(s)
		if e != api.OK || need(t, s, l) != least {
			t.Fatalf("Fewest of %v: %v, %d, %d; it needs %d", s, l, least, e, need(t, s, l))
		}
		m, _ := pairs.Bound(s)
		everyOrder(s, func(order []int) {
			n := need(t, s, order)
			if n < least || n < len(m.Places) {
				t.Fatalf("%v in the order %v needs %d, but Fewest says %d, and Bound %v", s, order, n, least, m)
			}
			if n == least && slices.Compare(order, l) < 0 {
				t.Fatalf("%v in the order %v needs %d as well, but Fewest says %v", s, order, n, l)
			}
		})
	})
}

// P12.5: the same for some orders of larger sheets; the pairs of the mark of Bound hang while its work is made, in any order.
func TestMarksHang(t *testing.T) {
	r := rand.New(rand.NewSource(7))
	for k := range 150 {
		s := someSheet(r, 2+r.Intn(23), 1+r.Intn(60))
		if k%3 == 0 {
			s = bricks(2+r.Intn(23), 1+r.Intn(12))
		}
		if k%3 == 1 {
			s = someSheet(r, 2+r.Intn(23), 1+r.Intn(api.MaxPrWorks))
		}
		m, e := pairs.Bound(s)
		if len(s.Works) == 0 || e != api.OK {
			t.Fatalf("Bound of %v: %v, %d", s, m, e)
		}
		for range 5 {
			order := someOrder(r, s)
			n := need(t, s, order)
			if n < len(m.Places) {
				t.Fatalf("%v in the order %v needs %d; Bound says %v", s, order, n, m)
			}
			for _, place := range m.Places {
				if !hangs(s, order, slices.Index(order, m.Work), place) {
					t.Fatalf("%v in the order %v: no pair hangs in %d while %d is made", s, order, place, m.Work)
				}
			}
			if _, least, e := pairs.Fewest(s); e == api.OK && n < least {
				t.Fatalf("%v in the order %v needs %d; Fewest says %d", s, order, n, least)
			}
		}
	}
}

// P12.6: Share uses just the numbers below the need, and no two places have one number while a pair hangs in both.
func TestNumbersOfShare(t *testing.T) {
	check := func(s api.Sheet, order []int) {
		numbers, e := pairs.Share(s, order)
		if e != api.OK || len(numbers) != s.Pairs {
			t.Fatalf("Share of %v, %v: %v, %d", s, order, numbers, e)
		}
		all := slices.Clone(numbers)
		slices.Sort(all)
		all = slices.DeleteFunc(slices.Compact(all), func(number int) bool { return number == -1 })
		if !slices.Equal(all, upTo(need(t, s, order))) {
			t.Fatalf("Share of %v, %v: %v; it needs %d", s, order, numbers, need(t, s, order))
		}
		for k := range order {
			var seen [api.MaxPairs]bool
			for place, number := range numbers {
				if !hangs(s, order, k, place) {
					continue
				}
				if seen[number] {
					t.Fatalf("Share of %v, %v: %v: twice %d while %d is made", s, order, numbers, number, order[k])
				}
				seen[number] = true
			}
		}
		for place, number := range numbers {
			if is := slices.ContainsFunc(s.Works, func(w api.Work) bool { return takes(w, place) }); is != (number >= 0) {
				t.Fatalf("Share of %v, %v: %v: the place %d is taken: %v", s, order, numbers, place, is)
			}
		}
	}
	manySheets(5, func(s api.Sheet) {
		everyOrder(s, func(order []int) { check(s, order) })
	})
	r := rand.New(rand.NewSource(8))
	for range 60 {
		s := someSheet(r, 2+r.Intn(23), r.Intn(100))
		check(s, someOrder(r, s))
	}
}

// merged returns a sheet with the works of both, whose places have nothing in common; it depends on r alone how they are mixed.
func merged(r *rand.Rand, a, b api.Sheet) api.Sheet {
	s := api.Sheet{Pairs: a.Pairs}
	v, w := a.Works, b.Works
	for len(v)+len(w) > 0 {
		if r.Intn(len(v)+len(w)) < len(v) {
			s.Works, v = append(s.Works, v[0]), v[1:]
		} else {
			s.Works, w = append(s.Works, w[0]), w[1:]
		}
	}
	return s
}

// P12.7: a sheet with the works of two sheets that have no places in common needs as many pairs as one of both.
func TestSheetsWithoutCommonPlaces(t *testing.T) {
	r := rand.New(rand.NewSource(9))
	met := map[int]int{}
	for range 300 {
		// The places of one sheet lie between those of the other one, or all to one side of them.
		from := r.Intn(5)
		to := from + 2 + r.Intn(4)
		a, b := api.Sheet{Pairs: 11}, api.Sheet{Pairs: 11}
		works := r.Intn(api.MaxPrWorks + 1)
		for len(a.Works)+len(b.Works) < works {
			w := stitch(r.Intn(10), "CTC")
			switch {
			case from <= w.At && w.At+1 < to:
				a.Works = append(a.Works, w)
			case w.At+1 < from || w.At >= to:
				b.Works = append(b.Works, w)
			}
		}
		_, needA, e := pairs.Fewest(a)
		_, needB, f := pairs.Fewest(b)
		s := merged(r, a, b)
		if _, n, g := pairs.Fewest(s); e != api.OK || f != api.OK || g != api.OK || n != max(needA, needB) {
			t.Fatalf("%v needs %d, %d; its halves %d, %d and %d, %d", s, n, g, needA, e, needB, f)
		}
		met[needA-needB]++
	}
	if met[0] == len(met) || met[1] < 5 || met[-1] < 5 {
		t.Errorf("the differences are %v", met)
	}
}

// P12.7: sheets beside each other (layer 10).
func TestSheetsBeside(t *testing.T) {
	r := rand.New(rand.NewSource(10))
	for range 100 {
		a, b := someSheet(r, 2+r.Intn(6), r.Intn(8)), someSheet(r, 2+r.Intn(6), r.Intn(7))
		s, e := assemble.Beside(a, b)
		_, needA, _ := pairs.Fewest(a)
		_, needB, _ := pairs.Fewest(b)
		if _, n, f := pairs.Fewest(s); e != api.OK || f != api.OK || n != max(needA, needB) {
			t.Fatalf("%v beside %v needs %d, %d, and they need %d and %d", a, b, n, f, needA, needB)
		}
	}
}

// The need of a sheet is not changed by another order of it (layer 4): the same orders are left.
func TestNeedOfOrders(t *testing.T) {
	r := rand.New(rand.NewSource(11))
	for range 100 {
		s := someSheet(r, 2+r.Intn(12), r.Intn(api.MaxPrWorks+1))
		l, least, _ := pairs.Fewest(s)
		x, e := sheet.Reorder(s, l)
		if n := need(t, x, upTo(len(l))); e != api.OK || n != least {
			t.Fatalf("%v in the order %v: %d, and needs %d, %d", s, l, n, least, e)
		}
		x, _ = sheet.Reorder(s, someOrder(r, s))
		if _, n, e := pairs.Fewest(x); e != api.OK || n != least {
			t.Fatalf("%v needs %d, and %v %d, %d", s, least, x, n, e)
		}
	}
}
