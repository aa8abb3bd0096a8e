package traces_test

import (
	"math/rand"
	"slices"
	"testing"

	"torchon/api"
	"torchon/traces"
)

// P5.3 and the chapter's example: Swaps.
func TestSwaps(t *testing.T) {
	for _, c := range []struct {
		name string
		a, b api.Sheet
		want []int
		e    api.Errno
	}{
		{"A and B", exampleA(), exampleB(), []int{0}, api.OK},
		{"B and A", exampleB(), exampleA(), []int{0}, api.OK},
		{"the same sheet", exampleA(), exampleA(), nil, api.OK},
		{"no works", api.Sheet{Pairs: 3}, api.Sheet{Pairs: 3}, nil, api.OK},
		{"no works on other pairs", api.Sheet{Pairs: 3}, api.Sheet{Pairs: 4}, nil, api.ErrNone},
		{"one work", halves(3, 1), halves(3, 1), nil, api.OK},
		{"works that touch", halves(3, 0, 1), halves(3, 1, 0), nil, api.ErrNone},
		{"another work", halves(4, 0), halves(4, 1), nil, api.ErrNone},
		{"one work more", halves(4, 0), halves(4, 0, 0), nil, api.ErrNone},
		{"the other way round", halves(6, 0, 2, 4), halves(6, 4, 2, 0), []int{0, 1, 0}, api.OK},
		{"the first one to the end", halves(8, 0, 2, 4, 6), halves(8, 2, 4, 6, 0), []int{0, 1, 2}, api.OK},
		{"the last one to the front", halves(8, 0, 2, 4, 6), halves(8, 6, 0, 2, 4), []int{2, 1, 0}, api.OK},
		{"two places far from each other", halves(8, 0, 2, 4, 6), halves(8, 2, 0, 6, 4), []int{0, 2}, api.OK},
		{"back by two places", halves(8, 0, 2, 4, 6), halves(8, 4, 2, 0, 6), []int{0, 1, 0}, api.OK},
		{"equal works", halves(4, 0, 0, 2, 2), halves(4, 2, 2, 0, 0), []int{1, 0, 2, 1}, api.OK},
	} {
		if l, e := traces.Swaps(c.a, c.b); !slices.Equal(l, c.want) || e != c.e {
			t.Errorf("%s: %v, %d, want %v, %d", c.name, l, e, c.want, c.e)
		}
	}
}

// P5.3: the least of the shortest lists of exchanges, against all exchanges.
func TestSwapsToEveryPiece(t *testing.T) {
	manySheets(func(s api.Sheet) {
		for _, x := range pieces(s) {
			if l, e := traces.Swaps(s, x.sheet); !slices.Equal(l, x.swaps) || e != api.OK {
				t.Fatalf("Swaps of %v and %v: %v, %d, want %v", s, x.sheet, l, e, x.swaps)
			}
		}
	})
}

// turned returns how many pairs of works are in a different order in two sheets, if the second one is the first one in this order.
func turned(order []int) int {
	n := 0
	for k, i := range order {
		for _, j := range order[k:] {
			if j < i {
				n++
			}
		}
	}
	return n
}

// P5.7: the exchanges make the second sheet of the first one, and are as many as pairs of works are in a different order.
func TestSwapsOfLongSheets(t *testing.T) {
	r := rand.New(rand.NewSource(7))
	for range 60 {
		s := someSheet(r, 2+r.Intn(12), r.Intn(90))
		x, y := shuffled(r, s), piece{sheet: s, order: upTo(len(s.Works))}
		l, e := traces.Swaps(s, x.sheet)
		if e != api.OK || len(l) != turned(x.order) {
			t.Fatalf("Swaps of %v and %v: %d, %d exchanges, want %d", s, x.sheet, e, len(l), turned(x.order))
		}
		for _, p := range l {
			ok := false
			if y, ok = y.exchanged(p); !ok {
				t.Fatalf("Swaps of %v and %v: %v exchanges works that touch", s, x.sheet, l)
			}
		}
		if !slices.Equal(y.sheet.Works, x.sheet.Works) {
			t.Fatalf("Swaps of %v and %v: %v leads to %v", s, x.sheet, l, y.sheet)
		}
	}
}

// columns returns a sheet with so many works at 0, at 2, and so on, column by column.
func columns(many ...int) api.Sheet {
	s := api.Sheet{Pairs: 24}
	for k, n := range many {
		s.Works = append(s.Works, slices.Repeat([]api.Work{stitch(2*k, "CTC")}, n)...)
	}
	return s
}

// P5.3: 5000 exchanges are made, more are not; sheets that are not the same lace are so whatever the number of exchanges.
func TestSwapLimit(t *testing.T) {
	a := columns(50, 100, 1, 1)
	fifty, hundred, one, other := a.Works[:50], a.Works[50:150], a.Works[150:151], a.Works[151:]
	for _, c := range []struct {
		name string
		b    [][]api.Work
		want int // exchanges
		e    api.Errno
	}{
		{"50 over 100", [][]api.Work{hundred, fifty, one, other}, 5000, api.OK},
		{"50 over 100, and one over another one", [][]api.Work{hundred, fifty, other, one}, 0, api.ErrFull},
		{"50 over 100, and all over one", [][]api.Work{one, hundred, fifty, other}, 0, api.ErrFull},
		{"100 and 50 over one", [][]api.Work{one, fifty, hundred, other}, 150, api.OK},
		{"49 over 100, and one over another one", [][]api.Work{fifty[:1], hundred, fifty[1:], other, one}, 4901, api.OK},
		{"50 over 100, and one is there twice", [][]api.Work{hundred, fifty, one, one}, 0, api.ErrNone},
		{"50 over 100, and one is missing", [][]api.Work{hundred, fifty, other}, 0, api.ErrNone},
	} {
		b := api.Sheet{Pairs: a.Pairs, Works: slices.Concat(c.b...)}
		if l, e := traces.Swaps(a, b); len(l) != c.want || e != c.e {
			t.Errorf("%s: %d exchanges, %d, want %d, %d", c.name, len(l), e, c.want, c.e)
		}
		if same, e := traces.Same(a, b); same != (c.e != api.ErrNone) || e != api.OK {
			t.Errorf("%s: Same %v, %d", c.name, same, e)
		}
	}
	a, b := columns(200, 200), columns(200, 200)
	slices.Reverse(b.Works)
	if l, e := traces.Swaps(a, b); len(l) > 0 || e != api.ErrFull {
		t.Errorf("200 over 200: %d exchanges, %d", len(l), e)
	}
}
