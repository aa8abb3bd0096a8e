package order_test

import (
	"math/rand"
	"slices"
	"testing"

	"torchon/api"
	"torchon/order"
	"torchon/sheet"
	"torchon/traces"
)

// P13.4 (T5): either Least returns an order that respects the wishes, or Cycle returns a cycle, never both. No cycle is shorter.
func TestEitherOrderOrCycle(t *testing.T) {
	r := rand.New(rand.NewSource(8))
	orders, cycles := 0, 0
	check := func(s api.Sheet, wishes [][2]int) {
		direct := directly(s, wishes)
		l, e := order.Least(s, wishes)
		c, f := order.Cycle(s, wishes)
		if (e == api.OK) == (f == api.OK) || e != api.OK && e != order.ErrCircle || f != api.OK && f != api.ErrNone {
			t.Fatalf("%v, %v: Least returns %v, %d, and Cycle %v, %d", s, wishes, l, e, c, f)
		}
		if e == api.OK {
			orders++
			if !respects(direct, l) || len(c) > 0 {
				t.Fatalf("Least of %v, %v: %v, and Cycle returns %v", s, wishes, l, c)
			}
			return
		}
		cycles++
		if !isCycle(direct, c) || len(l) > 0 || len(c) > len(cycleByWalks(direct)) {
			t.Fatalf("Cycle of %v, %v: %v, and Least returns %v", s, wishes, c, l)
		}
	}
	manySheets(30, check)
	for k := range 100 {
		s := someSheet(r, 2+r.Intn(23), 2+r.Intn(50))
		check(s, someWishes(r, len(s.Works), k%30))
	}
	if orders < 500 || cycles < 500 {
		t.Errorf("%d orders, %d cycles", orders, cycles)
	}
}

// P13.5: no order that respects the wishes has fewer steps aside than Near says, and no lesser one has as few.
func TestNoOrderIsNearer(t *testing.T) {
	manySheets(6, func(s api.Sheet, wishes [][2]int) {
		l, least, e := order.Near(s, wishes)
		if e != api.OK {
			return
		}
		direct := directly(s, wishes)
		if aside, f := order.Aside(s, l); f != api.OK || aside != least || !respects(direct, l) {
			t.Fatalf("Near of %v, %v: %v, %d; it has %d, %d", s, wishes, l, least, aside, f)
		}
		everyOrder(direct, func(other []int) {
			aside, f := order.Aside(s, other)
			if f != api.OK || aside < least || aside == least && slices.Compare(other, l) < 0 {
				t.Fatalf("%v, %v: %v has %d steps aside, %d, and Near says %v, %d", s, wishes, other, aside, f, l, least)
			}
		})
	})
}

// P13.5: from Least on, Next goes through all orders that respect the wishes: as many as Count says.
func TestNextGoesThroughAllOrders(t *testing.T) {
	met := 0
	check := func(s api.Sheet, wishes [][2]int) {
		direct := directly(s, wishes)
		many, e := order.Count(s, wishes)
		l, f := order.Least(s, wishes)
		if e != api.OK || (f == api.OK) != (many > 0) {
			t.Fatalf("%v, %v: Count returns %d, %d, and Least %v, %d", s, wishes, many, e, l, f)
		}
		if f != api.OK {
			return
		}
		var seen int64
		for f == api.OK {
			seen++
			if !respects(direct, l) {
				t.Fatalf("%v, %v: %v is not in order", s, wishes, l)
			}
			var next []int
			if next, f = order.Next(s, wishes, l); f == api.OK && slices.Compare(next, l) <= 0 {
				t.Fatalf("Next of %v, %v, %v: %v", s, wishes, l, next)
			}
			l = next
		}
		if f != api.ErrDown || seen != many {
			t.Fatalf("%v, %v: Next goes through %d orders and ends with %d, and Count says %d", s, wishes, seen, f, many)
		}
		met = max(met, int(seen))
	}
	manySheets(7, check)
	r := rand.New(rand.NewSource(9))
	for range 12 {
		s := someSheet(r, 12, 8)
		check(s, someWishes(r, 8, 3))
	}
	if met < 1000 {
		t.Errorf("there are at most %d orders", met)
	}
}

// P13.6: with a wish more, Least returns no lesser list, Count no greater number, and Near no fewer steps aside; what ErrCircle is returned for, stays so.
func TestOneWishMore(t *testing.T) {
	r := rand.New(rand.NewSource(10))
	circles, greater, lesser, farther := 0, 0, 0, 0
	for k := range 1500 {
		works := 2 + r.Intn(8)
		s := someSheet(r, 2+r.Intn(14), works)
		fewer := someWishes(r, works, k%5)
		more := slices.Insert(slices.Clone(fewer), r.Intn(len(fewer)+1), wish(r, works))
		before, e := order.Least(s, fewer)
		after, f := order.Least(s, more)
		manyBefore, _ := order.Count(s, fewer)
		manyAfter, _ := order.Count(s, more)
		_, asideBefore, g := order.Near(s, fewer)
		_, asideAfter, h := order.Near(s, more)
		if e != g || f != h || e != api.OK && f != e || (manyBefore == 0) != (e != api.OK) || (manyAfter == 0) != (f != api.OK) || manyAfter > manyBefore {
			t.Fatalf("%v, %v: %d, %d, %d orders; with %v: %d, %d, %d", s, fewer, e, g, manyBefore, more, f, h, manyAfter)
		}
		if f != api.OK {
			circles++
			continue
		}
		if slices.Compare(after, before) < 0 || asideAfter < asideBefore {
			t.Fatalf("%v, %v: %v, %d; with %v: %v, %d", s, fewer, before, asideBefore, more, after, asideAfter)
		}
		if !slices.Equal(before, after) {
			greater++
		}
		if manyAfter < manyBefore {
			lesser++
		}
		if asideAfter > asideBefore {
			farther++
		}
	}
	if circles < 50 || greater < 50 || lesser < 50 || farther < 20 {
		t.Errorf("%d cycles, %d greater lists, %d lesser numbers, %d with more steps aside", circles, greater, lesser, farther)
	}
}

// Without wishes, orders are those of layer 5: as many, with the same first one, and in the same order.
func TestOrdersOfTraces(t *testing.T) {
	r := rand.New(rand.NewSource(11))
	down := 0
	for range 300 {
		s := someSheet(r, 2+r.Intn(12), 1+r.Intn(api.MaxOrCount))
		many, e := traces.Orders(s)
		if n, f := order.Count(s, nil); n != many || f != e {
			t.Fatalf("Count of %v: %d, %d, and Orders %d, %d", s, n, f, many, e)
		}
		if e != api.OK {
			continue
		}
		zero, _ := traces.Nth(s, 0)
		if l, f := order.Least(s, nil); f != api.OK || !slices.Equal(l, zero) {
			t.Fatalf("Least of %v: %v, %d, want %v", s, l, f, zero)
		}
		k := r.Int63n(many)
		l, _ := traces.Nth(s, k)
		want, e := traces.Nth(s, k+1)
		if e == api.ErrNone {
			e = api.ErrDown
			down++
		}
		if next, f := order.Next(s, nil, l); f != e || !slices.Equal(next, want) {
			t.Fatalf("Next of %v, %v: %v, %d, want %v, %d", s, l, next, f, want, e)
		}
	}
	if down < 10 {
		t.Errorf("%d last orders", down)
	}
}

// What Least, Near and Next return are orders of the sheet (layer 4), also of larger ones, and in the sheet in this order the wishes are fulfilled already.
func TestOrdersOfSheets(t *testing.T) {
	r := rand.New(rand.NewSource(12))
	found := 0
	for k := range 200 {
		works := 2 + r.Intn(11)
		s := someSheet(r, 4+r.Intn(21), works)
		wishes := someWishes(r, works, k%6)
		for _, name := range []string{"Least", "Near", "Next"} {
			least, _ := order.Least(s, wishes)
			got := run(name, s, wishes, least)
			if got.e != api.OK {
				continue
			}
			found++
			x, e := sheet.Reorder(s, got.list)
			if e != api.OK {
				t.Fatalf("%s of %v, %v: %v is no order", name, s, wishes, got.list)
			}
			var moved [][2]int
			for _, w := range wishes {
				moved = append(moved, [2]int{slices.Index(got.list, w[0]), slices.Index(got.list, w[1])})
			}
			if l, e := order.Least(x, moved); e != api.OK || !slices.Equal(l, upTo(works)) {
				t.Fatalf("%s of %v, %v: %v; there the least order is %v, %d", name, s, wishes, got.list, l, e)
			}
		}
	}
	if found < 200 {
		t.Errorf("only %d orders", found)
	}
}
