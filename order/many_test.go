package order_test

import (
	"math/rand"
	"slices"
	"testing"

	"torchon/api"
	"torchon/order"
)

// first returns the first one of some lists; nil if there is none.
func first(lists [][]int) []int {
	if len(lists) == 0 {
		return nil
	}
	return lists[0]
}

// P13.1: Least and Cycle of many sheets with wishes, against all their orders, and all lists of their works.
func TestLeastAndCycleOfManySheets(t *testing.T) {
	met := map[int]int{}
	manySheets(6, func(s api.Sheet, wishes [][2]int) {
		direct := directly(s, wishes)
		least, cycle := first(ordersOf(direct)), cycleOf(direct)
		checkLeast(t, s, wishes, least, cycle)
		met[len(cycle)]++
	})
	for many := range 4 {
		if many != 1 && met[many] < 20 {
			t.Errorf("the numbers of works of cycles are %v", met)
		}
	}
}

// P13.1: Cycle of larger sheets, against walks.
func TestCyclesOfMoreWorks(t *testing.T) {
	r := rand.New(rand.NewSource(2))
	met := map[int]int{}
	several := 0
	for k := range 400 {
		works := 5 + r.Intn(30)
		s := someSheet(r, 4+r.Intn(21), works)
		wishes := someWishes(r, works, 3+k%20)
		direct := directly(s, wishes)
		want := cycleByWalks(direct)
		l, e := order.Cycle(s, wishes)
		if want == nil {
			if e != api.ErrNone || len(l) > 0 {
				t.Fatalf("Cycle of %v, %v: %v, %d", s, wishes, l, e)
			}
			continue
		}
		if e != api.OK || !slices.Equal(l, want) || !isCycle(direct, l) {
			t.Fatalf("Cycle of %v, %v: %v, %d, want %v", s, wishes, l, e, want)
		}
		met[len(l)]++
		if l[0] > 0 {
			several++
		}
	}
	if met[2] < 5 || met[3] < 5 || met[4] < 5 || several < 20 {
		t.Errorf("the numbers of works are %v; %d do not begin with the work 0", met, several)
	}
}

// P13.1: Cycle where only wishes lead from work to work: some are long, and there are several with the fewest works.
func TestCyclesOfWishes(t *testing.T) {
	r := rand.New(rand.NewSource(3))
	met := map[int]int{}
	for k := range 1000 {
		works := 3 + r.Intn(10)
		ring := r.Perm(works)[:2+r.Intn(works-1)]
		var wishes [][2]int
		for i, work := range ring {
			wishes = append(wishes, [2]int{work, ring[(i+1)%len(ring)]})
		}
		wishes = append(wishes[k%2:], someWishes(r, works, 4)...)
		s := apart(works)
		direct := directly(s, wishes)
		want := cycleByWalks(direct)
		met[len(want)]++
		if l, e := order.Cycle(s, wishes); (e == api.OK) != (want != nil) || !slices.Equal(l, want) {
			t.Fatalf("Cycle of %d works with the wishes %v: %v, %d, want %v", works, wishes, l, e, want)
		}
	}
	for _, many := range []int{0, 2, 3, 4, 5, 6, 7, 8} {
		if met[many] < 10 {
			t.Errorf("the numbers of works are %v", met)
		}
	}
}

// P13.1: Least of large sheets with wishes that some order fulfils, against taking the first work that can follow, again and again.
func TestLeastOfLargeSheets(t *testing.T) {
	r := rand.New(rand.NewSource(4))
	sorted := 0
	for k := range 60 {
		works := 20 + r.Intn(60)
		if k == 0 {
			works = 400
		}
		s := someSheet(r, 2+r.Intn(23), works)
		l := someOrder(r, directly(s, nil))
		var wishes [][2]int
		for range r.Intn(200) {
			a := r.Intn(works - 1)
			wishes = append(wishes, [2]int{l[a], l[a+1+r.Intn(works-a-1)]})
		}
		direct := directly(s, wishes)
		var want []int
		for range works {
			want = append(want, slices.IndexFunc(upTo(works), func(i int) bool { return canFollow(direct, want, i) }))
		}
		checkLeast(t, s, wishes, want, nil)
		if slices.IsSorted(want) {
			sorted++
		}
	}
	if sorted > 20 {
		t.Errorf("%d of 60 orders are those of the sheets", sorted)
	}
}

// P13.2: Near of many sheets with wishes, against all their orders; Aside of all these orders.
func TestNearOfManySheets(t *testing.T) {
	met := map[int]int{}
	notFirst := 0
	manySheets(6, func(s api.Sheet, wishes [][2]int) {
		all := ordersOf(directly(s, wishes))
		want, aside := nearOf(s, all)
		checkNear(t, s, wishes, want, aside)
		for _, l := range all {
			if n, e := order.Aside(s, l); e != api.OK || n != asideOf(s, l) {
				t.Fatalf("Aside of %v, %v: %d, %d, want %d", s, l, n, e, asideOf(s, l))
			}
		}
		met[aside]++
		if len(all) > 0 && !slices.Equal(want, all[0]) {
			notFirst++
		}
	})
	if met[0] < 50 || met[1] < 50 || met[2] < 20 || met[3] < 5 || notFirst < 50 {
		t.Errorf("the steps aside are %v, and %d orders are not the least ones", met, notFirst)
	}
}

// P13.2: Near of sheets with up to 12 works, against a search for the least order that does with so many steps aside, from 0 on.
func TestNearOfMoreWorks(t *testing.T) {
	r := rand.New(rand.NewSource(5))
	met := map[int]int{}
	for k := range 200 {
		works := 8 + r.Intn(5)
		if k%2 == 0 {
			works = api.MaxOrWorks
		}
		s := someSheet(r, 4+r.Intn(21), works)
		wishes := someWishes(r, works, k%6)
		direct := directly(s, wishes)
		if cycleByWalks(direct) != nil {
			checkNear(t, s, wishes, nil, 0)
			continue
		}
		for aside := 0; ; aside++ {
			if want, ok := leastWithin(s, direct, aside); ok {
				checkNear(t, s, wishes, want, aside)
				met[aside]++
				break
			}
		}
	}
	for aside := 1; aside <= 6; aside++ {
		if met[aside] < 3 {
			t.Errorf("the steps aside are %v", met)
		}
	}
}

// P13.2: Aside of large sheets, and of what is no order of them.
func TestAsideOfLargeSheets(t *testing.T) {
	r := rand.New(rand.NewSource(6))
	for k := range 60 {
		works := 1 + r.Intn(80)
		if k == 0 {
			works = 400
		}
		s := someSheet(r, 2+r.Intn(23), works)
		direct := directly(s, nil)
		l := someOrder(r, direct)
		if n, e := order.Aside(s, l); e != api.OK || n != asideOf(s, l) {
			t.Fatalf("Aside of %v, %v: %d, %d, want %d", s, l, n, e, asideOf(s, l))
		}
		a, b := r.Intn(works), r.Intn(works)
		l[a], l[b] = l[b], l[a]
		if n, e := order.Aside(s, l); (e == api.OK) != respects(direct, l) || e == api.OK && n != asideOf(s, l) || e != api.OK && (e != api.ErrNone || n != 0) {
			t.Fatalf("Aside of %v, %v: %d, %d", s, l, n, e)
		}
	}
}

// P13.2 and P13.3: Aside and Next of all lists of many sheets, orders and none, against the definitions.
func TestEveryList(t *testing.T) {
	met := 0
	manySheets(5, func(s api.Sheet, wishes [][2]int) {
		if len(s.Works) > 4 && met%25 > 0 {
			met++
			return
		}
		met++
		plain, direct := directly(s, nil), directly(s, wishes)
		all := ordersOf(direct)
		everyList(len(s.Works), func(l []int) {
			want, wantAside := api.ErrNone, 0
			if respects(plain, l) {
				want, wantAside = api.OK, asideOf(s, l)
			}
			if n, e := order.Aside(s, l); n != wantAside || e != want {
				t.Fatalf("Aside of %v, %v: %d, %d, want %d, %d", s, l, n, e, wantAside, want)
			}
			checkNext(t, s, wishes, l, direct, all)
		})
	})
}

// checkNext compares Next of a list with the first one of all orders that is greater.
func checkNext(t *testing.T, s api.Sheet, wishes [][2]int, l []int, direct [][]bool, all [][]int) {
	t.Helper()
	var next []int
	want := api.ErrNone
	if respects(direct, l) {
		want = api.ErrDown
		if k := slices.IndexFunc(all, func(x []int) bool { return slices.Compare(x, l) > 0 }); k >= 0 {
			next, want = all[k], api.OK
		}
	}
	if got, e := order.Next(s, wishes, l); e != want || !slices.Equal(got, next) {
		t.Fatalf("Next of %v, %v, %v: %v, %d, want %v, %d", s, wishes, l, got, e, next, want)
	}
}

// P13.3: Count of many sheets with wishes, against all their orders.
func TestCountOfManySheets(t *testing.T) {
	none := 0
	manySheets(6, func(s api.Sheet, wishes [][2]int) {
		all := ordersOf(directly(s, wishes))
		if n, e := order.Count(s, wishes); e != api.OK || n != int64(len(all)) {
			t.Fatalf("Count of %v, %v: %d, %d, want %d", s, wishes, n, e, len(all))
		}
		if len(all) == 0 {
			none++
		}
	})
	if none < 100 {
		t.Errorf("%d sheets without orders", none)
	}
}

// P13.3: Count of sheets with up to 16 works, against counting from the beginning.
func TestCountOfMoreWorks(t *testing.T) {
	r := rand.New(rand.NewSource(7))
	many, few, none := 0, 0, 0
	for k := range 200 {
		works := 12 + r.Intn(5)
		s := someSheet(r, 12+r.Intn(13), works)
		if k%4 == 0 {
			s = apart(12)
			for range 4 {
				s.Works = append(s.Works, stitch(r.Intn(23), "CT"))
			}
		}
		wishes := someWishes(r, len(s.Works), k%20)
		want := countOf(directly(s, wishes))
		n, e := order.Count(s, wishes)
		switch {
		case want > 1000000000:
			many++
			if e != api.ErrFull || n != 0 {
				t.Fatalf("Count of %v, %v: %d, %d, want ErrFull: there are %d", s, wishes, n, e, want)
			}
			continue
		case want == 0:
			none++
		default:
			few++
		}
		if e != api.OK || n != want {
			t.Fatalf("Count of %v, %v: %d, %d, want %d", s, wishes, n, e, want)
		}
	}
	if many < 10 || few < 50 || none < 10 {
		t.Errorf("%d have too many orders, %d have some, %d have none", many, few, none)
	}
}
