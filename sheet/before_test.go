package sheet_test

import (
	"math"
	"math/rand"
	"slices"
	"testing"

	"torchon/api"
	"torchon/sheet"
)

// P4.4 and the chapter's examples: Before and Chain, with all their errors.
func TestBeforeAndChain(t *testing.T) {
	four := sheetOf(4, 0, 2, 1, 0, 2, 1)
	for _, c := range []struct {
		s     api.Sheet
		a, b  int
		chain []int
		want  api.Errno // of Chain
	}{
		{example(), 0, 2, []int{0, 2}, api.OK},
		{example(), 0, 1, []int{0, 1}, api.OK},
		{example(), 1, 2, []int{1, 2}, api.OK},
		{example(), 2, 0, nil, api.ErrNone},
		{example(), 1, 0, nil, api.ErrNone},
		{example(), 1, 1, nil, api.ErrNone},
		{example(), 0, 3, nil, api.ErrArg},
		{example(), 3, 0, nil, api.ErrArg},
		{example(), 3, 3, nil, api.ErrArg},
		{example(), -1, 2, nil, api.ErrArg},
		{example(), 2, -1, nil, api.ErrArg},
		{example(), math.MinInt, math.MaxInt, nil, api.ErrArg},
		{api.Sheet{Pairs: 2}, 0, 0, nil, api.ErrArg},
		{four, 0, 4, []int{0, 2, 4}, api.OK},
		{four, 1, 3, []int{1, 2, 3}, api.OK},
		{four, 0, 5, []int{0, 5}, api.OK},
		{four, 0, 1, nil, api.ErrNone},
		{four, 3, 4, nil, api.ErrNone},
		// A work that is not done directly before another one touches it as well.
		{sheetOf(2, 0, 0, 0, 0), 0, 3, []int{0, 3}, api.OK},
		{sheetOf(2, 0, 0, 0, 0), 1, 3, []int{1, 3}, api.OK},
		// Of several shortest chains the least one: by 1, not by 2.
		{sheetOf(4, 0, 1, 1, 2), 0, 3, []int{0, 1, 3}, api.OK},
		{sheetOf(5, 0, 1, 1, 2, 2, 3), 0, 5, []int{0, 1, 3, 5}, api.OK},
		// The shortest chain is not the one that begins with the least works.
		{sheetOf(5, 1, 0, 1, 2, 3), 0, 4, []int{0, 3, 4}, api.OK},
		// The least work to go on with is none from which the last one can be reached in time.
		{sheetOf(5, 0, 0, 1, 3, 2, 3), 0, 5, []int{0, 2, 4, 5}, api.OK},
		{sheetOf(6, 0, 2, 4), 0, 2, nil, api.ErrNone},
		{sheetOf(6, 2, 0, 1, 4, 3), 1, 4, nil, api.ErrNone},
	} {
		l, e := sheet.Chain(c.s, c.a, c.b)
		if e != c.want || !slices.Equal(l, c.chain) {
			t.Errorf("Chain of %v, %d, %d: %v, %d, want %v, %d", c.s, c.a, c.b, l, e, c.chain, c.want)
		}
		want := api.OK
		if c.want == api.ErrArg {
			want = api.ErrArg
		}
		if is, e := sheet.Before(c.s, c.a, c.b); is != (c.want == api.OK) || e != want {
			t.Errorf("Before of %v, %d, %d: %v, %d", c.s, c.a, c.b, is, e)
		}
	}
}

// bestChain goes through all chains from a to b, and returns the first one of the shortest ones; they are found in the order of lists.
func bestChain(s api.Sheet, a, b int) []int {
	var best []int
	var grow func(l []int)
	grow = func(l []int) {
		last := l[len(l)-1]
		if last == b && len(l) > 1 && (best == nil || len(l) < len(best)) {
			best = slices.Clone(l)
		}
		for next := last + 1; next <= b; next++ {
			if touching(s.Works[last], s.Works[next]) {
				grow(append(slices.Clone(l), next))
			}
		}
	}
	grow([]int{a})
	return best
}

// P4.4: Before and Chain of all works of many sheets, against the definition and all chains.
func TestEveryTwoWorks(t *testing.T) {
	manySheets(9, func(s api.Sheet) {
		before := beforeTable(s)
		for a := range s.Works {
			for b := range s.Works {
				if is, e := sheet.Before(s, a, b); e != api.OK || is != before[a][b] {
					t.Fatalf("Before of %v, %d, %d: %v, %d", s, a, b, is, e)
				}
				want := api.OK
				if !before[a][b] {
					want = api.ErrNone
				}
				if l, e := sheet.Chain(s, a, b); e != want || !slices.Equal(l, bestChain(s, a, b)) {
					t.Fatalf("Chain of %v, %d, %d: %v, %d, want %v, %d", s, a, b, l, e, bestChain(s, a, b), want)
				}
			}
		}
	})
}

// leastByDistance returns the least of the shortest chains: from each work to the least one that touches it and is one step nearer to b.
func leastByDistance(s api.Sheet, a, b int) []int {
	far := make([]int, len(s.Works))
	for i := b - 1; i >= a; i-- {
		far[i] = math.MaxInt
		for j := i + 1; j <= b; j++ {
			if touching(s.Works[i], s.Works[j]) && far[j] < math.MaxInt {
				far[i] = min(far[i], far[j]+1)
			}
		}
	}
	if a >= b || far[a] == math.MaxInt {
		return nil
	}
	l := []int{a}
	for i := a; i != b; l = append(l, i) {
		j := i + 1
		for far[j] != far[i]-1 || !touching(s.Works[i], s.Works[j]) {
			j++
		}
		i = j
	}
	return l
}

// P4.4: chains of large sheets.
func TestLongChains(t *testing.T) {
	r := rand.New(rand.NewSource(4))
	for range 30 {
		s := someSheet(r, 24, 400)
		for range 20 {
			a, b := r.Intn(200), r.Intn(400)
			want := leastByDistance(s, a, b)
			if l, _ := sheet.Chain(s, a, b); !slices.Equal(l, want) {
				t.Fatalf("Chain of %v, %d, %d: %v, want %v", s, a, b, l, want)
			}
			if is, _ := sheet.Before(s, a, b); is != (want != nil) {
				t.Fatalf("Before of %v, %d, %d: %v", s, a, b, is)
			}
		}
	}
	// A staircase from side to side has chains of many works, each of which is the only one.
	var at []int
	for place := range 23 {
		at = append(at, place)
	}
	s := sheetOf(24, at...)
	if l, e := sheet.Chain(s, 0, 22); e != api.OK || !slices.Equal(l, at) {
		t.Errorf("Chain of a staircase: %v, %d", l, e)
	}
	if is, e := sheet.Before(sheetOf(2, make([]int, 400)...), 0, 399); !is || e != api.OK {
		t.Errorf("Before of the first and the last of 400 works: %v, %d", is, e)
	}
}

// P4.7: Before is transitive, and no work is before itself.
func TestBeforeIsAnOrder(t *testing.T) {
	manySheets(9, func(s api.Sheet) {
		before := func(a, b int) bool {
			is, e := sheet.Before(s, a, b)
			if e != api.OK {
				t.Fatalf("Before of %v, %d, %d: %d", s, a, b, e)
			}
			return is
		}
		for a := range s.Works {
			for b := range s.Works {
				for c := range s.Works {
					if before(a, b) && before(b, c) && !before(a, c) {
						t.Fatalf("%v: %d is before %d, and that before %d", s, a, b, c)
					}
				}
			}
			if before(a, a) {
				t.Fatalf("%v: %d is before itself", s, a)
			}
		}
	})
}

// P4.7: a chain proves that its first work is before its last one, and there is one if it is.
func TestChainsProve(t *testing.T) {
	manySheets(30, func(s api.Sheet) {
		for a := range s.Works {
			for b := range s.Works {
				l, e := sheet.Chain(s, a, b)
				if is, _ := sheet.Before(s, a, b); is != (e == api.OK) || !is && e != api.ErrNone {
					t.Fatalf("%v: %d before %d: %v, but the chain is %v, %d", s, a, b, is, l, e)
				}
				if e == api.OK && (len(l) < 2 || l[0] != a || l[len(l)-1] != b || !isChain(s, l)) {
					t.Fatalf("Chain of %v, %d, %d: %v", s, a, b, l)
				}
			}
		}
	})
}

// isChain returns whether each work of a list touches the next one, which has a greater index.
func isChain(s api.Sheet, l []int) bool {
	for k, i := range l[1:] {
		if i <= l[k] || !touching(s.Works[l[k]], s.Works[i]) {
			return false
		}
	}
	return true
}
