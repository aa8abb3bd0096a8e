package pairs_test

import (
	"math/rand"
	"slices"
	"testing"

	"torchon/api"
	"torchon/pairs"
)

// checkFewest compares Fewest of a sheet with what it should be.
func checkFewest(t *testing.T, s api.Sheet, want []int, least int) {
	t.Helper()
	if l, need, e := pairs.Fewest(s); e != api.OK || need != least || !slices.Equal(l, want) {
		t.Fatalf("Fewest of %v: %v, %d, %d, want %v, %d", s, l, need, e, want, least)
	}
}

// P12.2: Fewest of many sheets, against all their orders.
func TestFewestOfAllOrders(t *testing.T) {
	notInOrder := 0
	check := func(s api.Sheet) {
		want, least := fewestOf(s)
		checkFewest(t, s, want, max(least, 0))
		if !slices.IsSorted(want) {
			notInOrder++
		}
	}
	manySheets(6, check)
	r := rand.New(rand.NewSource(2))
	for range 300 {
		check(someSheet(r, 3+r.Intn(9), 7))
	}
	if notInOrder < 100 {
		t.Errorf("only %d sheets whose order is not thrifty", notInOrder)
	}
}

// P12.2: Fewest of sheets with up to 14 works, against a search for the least order that does with so many pairs, from 2 on.
func TestFewestOfMoreWorks(t *testing.T) {
	r := rand.New(rand.NewSource(3))
	met := map[int]int{}
	late := 0
	for k := range 200 {
		works := 9 + r.Intn(6)
		if k%2 == 0 {
			works = api.MaxPrWorks
		}
		s := someSheet(r, 4+r.Intn(21), works)
		for need := 2; ; need++ {
			want, ok := leastWithin(s, need)
			if !ok {
				continue
			}
			checkFewest(t, s, want, need)
			met[need]++
			if want[0] != 0 {
				late++
			}
			break
		}
	}
	if met[2] < 5 || met[3] < 5 || met[4] < 5 || met[5] < 5 || late < 5 {
		t.Errorf("the needs are %v, and %d orders do not begin with the work 0", met, late)
	}
}

// P12.2: words and kinds of works do not matter.
func TestWordsDoNotMatter(t *testing.T) {
	r := rand.New(rand.NewSource(4))
	for range 100 {
		s := someSheet(r, 3+r.Intn(8), 1+r.Intn(12))
		sewn := api.Sheet{Pairs: s.Pairs}
		for _, w := range s.Works {
			sewn.Works = append(sewn.Works, sew(w.At))
		}
		want, least, _ := pairs.Fewest(s)
		checkFewest(t, sewn, want, least)
		m, _ := pairs.Bound(s)
		if n, e := pairs.Bound(sewn); e != api.OK || n.Work != m.Work || !slices.Equal(n.Places, m.Places) {
			t.Fatalf("Bound of %v: %v, of sewings: %v, %d", s, m, n, e)
		}
	}
}

// P12.3: Bound of many sheets, against all marks.
func TestBoundOfManySheets(t *testing.T) {
	first, more := 0, 0
	check := func(s api.Sheet) {
		m, e := pairs.Bound(s)
		if len(s.Works) == 0 {
			if e != api.ErrNone || m.Work != 0 || len(m.Places) > 0 {
				t.Fatalf("Bound of %v: %v, %d", s, m, e)
			}
			return
		}
		want := boundOf(s)
		if e != api.OK || m.Work != want.Work || !slices.Equal(m.Places, want.Places) {
			t.Fatalf("Bound of %v: %v, %d, want %v", s, m, e, want)
		}
		if m.Work == 0 {
			first++
		}
		if len(m.Places) > 4 {
			more++
		}
	}
	manySheets(30, check)
	r := rand.New(rand.NewSource(5))
	for range 40 {
		check(someSheet(r, 2+r.Intn(23), r.Intn(120)))
	}
	check(someSheet(r, 24, 400))
	for rows := range 30 {
		check(bricks(24, rows))
		check(bricks(7, rows))
	}
	if first < 100 || more < 100 {
		t.Errorf("%d sheets with the mark of the work 0, and %d with many places", first, more)
	}
}

// P12.1 and P12.4: Hanging and Share of large sheets, in some of their orders.
func TestLargeSheets(t *testing.T) {
	r := rand.New(rand.NewSource(6))
	for k := range 60 {
		s := someSheet(r, 2+r.Intn(23), r.Intn(80))
		if k == 0 {
			s = someSheet(r, 24, 400)
		}
		order := someOrder(r, s)
		want, most := hangingOf(s, order)
		if l, need, e := pairs.Hanging(s, order); e != api.OK || need != most || !slices.Equal(l, want) {
			t.Fatalf("Hanging of %v, %v: %v, %d, %d, want %v, %d", s, order, l, need, e, want, most)
		}
		if l, e := pairs.Share(s, order); e != api.OK || !slices.Equal(l, shareOf(s, order)) {
			t.Fatalf("Share of %v, %v: %v, %d, want %v", s, order, l, e, shareOf(s, order))
		}
	}
}
