package traces_test

import (
	"math/rand"
	"slices"
	"strings"
	"testing"

	"torchon/api"
	"torchon/sheet"
	"torchon/traces"
)

func stitch(at int, word string) api.Work {
	return api.Work{Kind: api.WkStitch, At: at, Word: word}
}

func sew(at int) api.Work {
	return api.Work{Kind: api.WkSew, At: at}
}

// exampleA and exampleB are the sheets of the chapter's examples.
func exampleA() api.Sheet {
	return api.Sheet{Pairs: 4, Works: []api.Work{stitch(0, "CT"), stitch(2, "CTC"), stitch(1, "CT")}}
}

func exampleB() api.Sheet {
	return api.Sheet{Pairs: 4, Works: []api.Work{stitch(2, "CTC"), stitch(0, "CT"), stitch(1, "CT")}}
}

// halves returns a sheet of half stitches in these places.
func halves(pairs int, at ...int) api.Sheet {
	s := api.Sheet{Pairs: pairs}
	for _, place := range at {
		s.Works = append(s.Works, stitch(place, "CT"))
	}
	return s
}

// someSheet returns a sheet with so many works, which depends on r alone. Equal works are frequent in it.
func someSheet(r *rand.Rand, pairs, works int) api.Sheet {
	s := api.Sheet{Pairs: pairs}
	for range works {
		at := r.Intn(pairs - 1)
		s.Works = append(s.Works, [...]api.Work{stitch(at, "CT"), stitch(at, "CTPC"), stitch(at, ""), sew(at)}[r.Intn(4)])
	}
	return s
}

// largest is a sheet that reaches the limits: 24 pairs, and 400 works with 16 moves each.
func largest() api.Sheet {
	s := someSheet(rand.New(rand.NewSource(1)), 24, 400)
	for i := range s.Works {
		s.Works[i] = stitch(s.Works[i].At, strings.Repeat("CT", 8))
	}
	return s
}

// upTo returns the numbers below n.
func upTo(n int) []int {
	l := make([]int, n)
	for i := range l {
		l[i] = i
	}
	return l
}

// touching returns whether two works have a place in common.
func touching(v, w api.Work) bool {
	return max(v.At, w.At)-min(v.At, w.At) <= 1
}

// A piece is a sheet that is made of another one by exchanges: in which order its works are done, and the least of the shortest lists of exchanges.
type piece struct {
	sheet        api.Sheet
	order, swaps []int
}

// exchanged returns a piece after an exchange at p; false if these works touch.
func (x piece) exchanged(p int) (piece, bool) {
	y := piece{api.Sheet{Pairs: x.sheet.Pairs, Works: slices.Clone(x.sheet.Works)}, slices.Clone(x.order), append(slices.Clone(x.swaps), p)}
	w := y.sheet.Works
	if touching(w[p], w[p+1]) {
		return piece{}, false
	}
	w[p], w[p+1] = w[p+1], w[p]
	y.order[p], y.order[p+1] = y.order[p+1], y.order[p]
	return y, true
}

// pieces returns all that exchanges make of a sheet, which is the first of them. They are found by the lengths of their lists of exchanges, and those of the same length in the order of these lists.
func pieces(s api.Sheet) []piece {
	all := []piece{{sheet: s, order: upTo(len(s.Works))}}
	for k := 0; k < len(all); k++ {
		for p := range len(s.Works) - 1 {
			y, ok := all[k].exchanged(p)
			if ok && !slices.ContainsFunc(all, func(x piece) bool { return slices.Equal(x.sheet.Works, y.sheet.Works) }) {
				all = append(all, y)
			}
		}
	}
	return all
}

// manySheets calls with all sheets of at most 3 works on 4 pairs, in which there are two works for each place, and with some of at most 6 works on at most 8 pairs.
func manySheets(call func(s api.Sheet)) {
	for _, s := range smallSheets() {
		call(s)
	}
	r := rand.New(rand.NewSource(2))
	for range 400 {
		call(someSheet(r, 2+r.Intn(7), r.Intn(7)))
	}
}

// smallSheets returns all sheets of at most 3 works on 4 pairs, in which there are two works for each place.
func smallSheets() []api.Sheet {
	all := []api.Sheet{{Pairs: 4}}
	for k := 0; k < len(all); k++ {
		if len(all[k].Works) == 3 {
			break
		}
		for at := range 3 {
			for _, w := range [...]api.Work{stitch(at, "CTC"), sew(at)} {
				all = append(all, api.Sheet{Pairs: 4, Works: append(slices.Clone(all[k].Works), w)})
			}
		}
	}
	return all
}

// shuffled returns a piece after many exchanges.
func shuffled(r *rand.Rand, s api.Sheet) piece {
	x := piece{sheet: api.Sheet{Pairs: s.Pairs, Works: slices.Clone(s.Works)}, order: upTo(len(s.Works))}
	if len(s.Works) < 2 {
		return x
	}
	for range 20 * len(s.Works) {
		if y, ok := x.exchanged(r.Intn(len(s.Works) - 1)); ok {
			y.swaps = nil
			x = y
		}
	}
	return x
}

// P5.1 and the chapter's examples: Same and Match.
func TestSameAndMatch(t *testing.T) {
	stitched := func(works ...api.Work) api.Sheet { return api.Sheet{Pairs: 6, Works: works} }
	cloth, changed := exampleA(), exampleA()
	changed.Works[0].Word = "CTC"
	for _, c := range []struct {
		name  string
		a, b  api.Sheet
		order []int
		same  bool
	}{
		{"A and B", exampleA(), exampleB(), []int{1, 0, 2}, true},
		{"B and A", exampleB(), exampleA(), []int{1, 0, 2}, true},
		{"A and A", exampleA(), exampleA(), []int{0, 1, 2}, true},
		{"A and A with CTC at 0", cloth, changed, nil, false},
		{"no works", api.Sheet{Pairs: 2}, api.Sheet{Pairs: 2, Works: []api.Work{}}, nil, true},
		{"no works on other pairs", api.Sheet{Pairs: 2}, api.Sheet{Pairs: 3}, nil, false},
		{"more pairs", halves(3, 0), halves(4, 0), nil, false},
		{"fewer pairs", halves(4, 0), halves(3, 0), nil, false},
		{"no works and one", api.Sheet{Pairs: 4}, halves(4, 0), nil, false},
		{"one work and none", halves(4, 0), api.Sheet{Pairs: 4}, nil, false},
		{"one work more at the end", halves(4, 0, 2), halves(4, 2, 0, 1), nil, false},
		{"one work less at the end", halves(4, 0, 2, 1), halves(4, 0, 2), nil, false},
		{"not the order of the first to the second, but back", halves(6, 0, 2, 4), halves(6, 4, 0, 2), []int{2, 0, 1}, true},
		{"works that touch", halves(4, 0, 1), halves(4, 1, 0), nil, false},
		{"works of the same place", stitched(stitch(0, "C"), stitch(0, "T")), stitched(stitch(0, "T"), stitch(0, "C")), nil, false},
		{"works 2 apart", halves(4, 2, 0), halves(4, 0, 2), []int{1, 0}, true},
		{"equal works", stitched(stitch(0, "C"), stitch(0, "C"), stitch(2, "C")), stitched(stitch(2, "C"), stitch(0, "C"), stitch(0, "C")), []int{2, 0, 1}, true},
		{"equal works with another one between", halves(6, 0, 1, 0, 3), halves(6, 0, 3, 1, 0), []int{0, 3, 1, 2}, true},
		{"equal works that pass another one", halves(6, 0, 1, 0, 3), halves(6, 0, 0, 1, 3), nil, false},
		{"equal works in two places", halves(4, 0, 0, 2, 2), halves(4, 2, 0, 2, 0), []int{2, 0, 3, 1}, true},
		{"the same stitch with another word", stitched(stitch(0, "CTC")), stitched(stitch(0, "CLRC")), nil, false},
		{"a stitch without moves, and a sewing", stitched(stitch(0, "")), stitched(sew(0)), nil, false},
		{"sewings", stitched(sew(0), stitch(3, "C")), stitched(stitch(3, "C"), sew(0)), []int{1, 0}, true},
		{"a stitch over a sewing", stitched(sew(1), stitch(2, "C")), stitched(stitch(2, "C"), sew(1)), nil, false},
		{"another place", halves(6, 0), halves(6, 1), nil, false},
		{"a place where nothing is left", halves(6, 0, 3), halves(6, 0, 0), nil, false},
		{"a work to the right of the one that is next", halves(4, 0, 1), halves(4, 0, 2), nil, false},
		{"the last places", halves(24, 22, 0, 21), halves(24, 0, 22, 21), []int{1, 0, 2}, true},
	} {
		if same, e := traces.Same(c.a, c.b); same != c.same || e != api.OK {
			t.Errorf("%s: Same %v, %d", c.name, same, e)
		}
		want := api.OK
		if !c.same {
			want = api.ErrNone
		}
		if l, e := traces.Match(c.a, c.b); !slices.Equal(l, c.order) || e != want {
			t.Errorf("%s: Match %v, %d, want %v, %d", c.name, l, e, c.order, want)
		}
	}
}

// P5.1: Same and Match of every two small sheets, against all exchanges.
func TestEveryTwoSheets(t *testing.T) {
	all := smallSheets()
	for _, a := range all {
		made := pieces(a)
		for _, b := range all {
			k := slices.IndexFunc(made, func(x piece) bool { return slices.Equal(x.sheet.Works, b.Works) })
			var order []int
			want := api.ErrNone
			if k >= 0 {
				order, want = made[k].order, api.OK
			}
			if same, e := traces.Same(a, b); same != (k >= 0) || e != api.OK {
				t.Fatalf("Same of %v and %v: %v, %d", a, b, same, e)
			}
			if l, e := traces.Match(a, b); !slices.Equal(l, order) || e != want {
				t.Fatalf("Match of %v and %v: %v, %d, want %v, %d", a, b, l, e, order, want)
			}
		}
	}
}

// P5.1: all that exchanges make of a sheet is the same lace, in the order that they make.
func TestEveryPiece(t *testing.T) {
	manySheets(func(s api.Sheet) {
		for _, x := range pieces(s) {
			if l, e := traces.Match(s, x.sheet); !slices.Equal(l, x.order) || e != api.OK {
				t.Fatalf("Match of %v and %v: %v, %d, want %v", s, x.sheet, l, e, x.order)
			}
			if y, e := sheet.Reorder(s, x.order); e != api.OK || !slices.Equal(y.Works, x.sheet.Works) {
				t.Fatalf("%v in the order %v: %v, %d", s, x.order, y, e)
			}
			if same, e := traces.Same(x.sheet, s); !same || e != api.OK {
				t.Fatalf("Same of %v and %v: %v, %d", x.sheet, s, same, e)
			}
		}
	})
}

// A broken is a sheet that is none, and the error of sheet.Check.
type broken struct {
	name string
	s    api.Sheet
	want api.Errno
}

func brokenSheets() []broken {
	return []broken{
		{"25 pairs", api.Sheet{Pairs: 25}, api.ErrLong},
		{"401 works", halves(2, make([]int, 401)...), api.ErrLong},
		{"17 moves", api.Sheet{Pairs: 2, Works: []api.Work{stitch(0, strings.Repeat("C", 17))}}, api.ErrLong},
		{"nothing", api.Sheet{}, api.ErrArg},
		{"one pair", api.Sheet{Pairs: 1}, api.ErrArg},
		{"a work too far to the right", halves(4, 0, 3), api.ErrArg},
		{"a work too far to the left", halves(4, -1), api.ErrArg},
		{"no kind", api.Sheet{Pairs: 4, Works: []api.Work{{}}}, api.ErrArg},
		{"a sewing with a word", api.Sheet{Pairs: 4, Works: []api.Work{{Kind: api.WkSew, Word: "C"}}}, api.ErrArg},
		{"a wrong letter", api.Sheet{Pairs: 4, Works: []api.Work{stitch(0, "CX")}}, api.ErrForm},
		{"17 works and a wrong letter", api.Sheet{Pairs: 4, Works: append(halves(4, make([]int, 16)...).Works, stitch(0, "x"))}, api.ErrForm},
	}
}

// P5.1 to P5.4: all functions return the error of sheet.Check first (for a, then for b), and nothing else.
func TestErrorsOfSheets(t *testing.T) {
	with := func(name string, a, b api.Sheet, want api.Errno) {
		t.Helper()
		if same, e := traces.Same(a, b); same || e != want {
			t.Errorf("%s: Same %v, %d, want %d", name, same, e, want)
		}
		if l, e := traces.Match(a, b); len(l) > 0 || e != want {
			t.Errorf("%s: Match %v, %d, want %d", name, l, e, want)
		}
		if l, e := traces.Swaps(a, b); len(l) > 0 || e != want {
			t.Errorf("%s: Swaps %v, %d, want %d", name, l, e, want)
		}
	}
	for _, c := range brokenSheets() {
		if e := sheet.Check(c.s); e != c.want {
			t.Errorf("%s: Check %d, want %d", c.name, e, c.want)
		}
		with(c.name+" first", c.s, exampleA(), c.want)
		with(c.name+" second", exampleA(), c.s, c.want)
		with(c.name+" twice", c.s, c.s, c.want)
		for _, d := range brokenSheets() {
			with(c.name+", and then "+d.name, c.s, d.s, c.want)
		}
		if l, e := traces.Least(c.s); len(l) > 0 || e != c.want {
			t.Errorf("%s: Least %v, %d, want %d", c.name, l, e, c.want)
		}
		if l, e := traces.Levels(c.s); len(l) > 0 || e != c.want {
			t.Errorf("%s: Levels %v, %d, want %d", c.name, l, e, c.want)
		}
		if n, e := traces.Orders(c.s); n != 0 || e != c.want {
			t.Errorf("%s: Orders %d, %d, want %d", c.name, n, e, c.want)
		}
		for _, k := range []int64{-1, 0, 1 << 40} {
			if l, e := traces.Nth(c.s, k); len(l) > 0 || e != c.want {
				t.Errorf("%s: Nth %d %v, %d, want %d", c.name, k, l, e, c.want)
			}
		}
		for _, order := range [][]int{nil, {0}, {7, -1}, upTo(len(c.s.Works))} {
			if n, e := traces.Rank(c.s, order); n != 0 || e != c.want {
				t.Errorf("%s: Rank of %v %d, %d, want %d", c.name, order, n, e, c.want)
			}
		}
	}
}
