package assemble_test

import (
	"math"
	"math/rand"
	"slices"
	"strconv"
	"testing"

	"torchon/api"
	"torchon/assemble"
)

// P10.3: the examples of the chapter, and sheets that are written out.
func TestPlacesOfExamples(t *testing.T) {
	s, e := assemble.Flip(stitchesOf(3, "CL@0"))
	isSheet(t, "Flip", s, e, stitchesOf(3, "CR@1"))
	s, e = assemble.Mirror(stitchesOf(3, "CL@0"))
	isSheet(t, "Mirror", s, e, stitchesOf(3, "cr@1"))
	s, e = assemble.Flip(stitchesOf(5, "CLRTPclrt@0 @3 C@1"))
	isSheet(t, "Flip of all letters", s, e, stitchesOf(5, "CRLTPcrlt@3 @0 C@2"))
	s, e = assemble.Mirror(stitchesOf(5, "CLRTPclrt@0 @3 C@1"))
	isSheet(t, "Mirror of all letters", s, e, stitchesOf(5, "crltPCRLT@3 @0 c@2"))
	s, e = assemble.Place(stitchesOf(3, "CL@0 @1"), 2, 6)
	isSheet(t, "Place", s, e, stitchesOf(6, "CL@2 @3"))
	s, e = assemble.Cut(stitchesOf(4, "C@0 C@1 C@2 C@0"), 0, 1)
	isSheet(t, "Cut", s, e, stitchesOf(2, "C@0"))
}

// P10.3: which works are cut out: those in the places that have only such works before them.
func TestCutOfSheets(t *testing.T) {
	for _, x := range []struct {
		pairs    int
		works    string
		from, to int
		want     string
	}{
		{4, "C@0 L@1 R@2 P@0", 0, 3, "C@0 L@1 R@2 P@0"},
		{4, "C@0 L@1 R@2 P@0", 0, 2, "C@0 L@1 P@0"},
		{4, "C@0 L@1 R@2 P@0", 1, 2, ""},
		{4, "C@0 L@1 R@2 P@0", 2, 3, ""},
		{4, "C@2 L@1 R@2 P@0", 2, 3, "C@0"},
		{4, "C@2 L@0 R@2 P@0", 2, 3, "C@0 R@0"},
		{6, "C@1 L@2 R@3 P@3", 2, 5, ""},
		// A work is left out if a work that is left out is before it, however far away that was.
		{6, "C@1 L@2 R@3 P@4 T@3", 2, 5, ""},
		{6, "P@4 C@1 L@2 R@3 P@4 T@3", 2, 5, "P@2"},
		{6, "C@0 L@2 R@3 P@4 T@1 L@2 R@4 T@4", 2, 5, "L@0 R@1 P@2 R@2 T@2"},
		{6, "C@0 L@2 R@3 P@4 T@1 L@2 @3 R@4 T@4", 2, 5, "L@0 R@1 P@2"},
		// A sewing is a work as others.
		{4, "@1 C@2 C@0 @0", 2, 3, ""},
		{4, "@2 C@2 @0 @1", 2, 3, "@0 C@0"},
		{5, "@0 @3 C@3 @2 @3", 3, 4, "@0 C@0"},
		// What comes from both sides leaves nothing behind the point where it meets.
		{7, "C@2 C@3 C@1 L@4 R@2 R@3", 2, 4, "C@0 C@1"},
		{24, "", 22, 23, ""},
		{2, "C@0 L@0", 0, 1, "C@0 L@0"},
	} {
		s, e := assemble.Cut(stitchesOf(x.pairs, x.works), x.from, x.to)
		isSheet(t, "Cut of "+x.works+" from "+strconv.Itoa(x.from)+" to "+strconv.Itoa(x.to), s, e, stitchesOf(x.to-x.from+1, x.want))
	}
}

// far returns numbers that are far from all places.
func far() []int {
	return []int{math.MinInt, math.MinInt + 1, -1 << 32, 1 << 32, math.MaxInt - 1, math.MaxInt}
}

// P10.3: Place and Cut with all places, also those that are just outside.
func TestAllPlaces(t *testing.T) {
	for pairs := 2; pairs <= 24; pairs++ {
		a := someSheet(rand.New(rand.NewSource(int64(pairs))), pairs, 3*pairs)
		for from := -2; from <= 26; from++ {
			for n := -2; n <= 27; n++ {
				what := strconv.Itoa(pairs) + " pairs, " + strconv.Itoa(from) + ", " + strconv.Itoa(n)
				want, error := placeOf(a, from, n)
				s, e := assemble.Place(a, from, n)
				is(t, "Place of "+what, s, e, want, error)
				want, error = cutOf(a, from, n)
				s, e = assemble.Cut(a, from, n)
				is(t, "Cut of "+what, s, e, want, error)
			}
		}
		for _, n := range far() {
			for _, m := range append(far(), -1, 0, 1, 2, 24) {
				for _, x := range [][2]int{{n, m}, {m, n}} {
					s, e := assemble.Place(a, x[0], x[1])
					isError(t, "Place far away", s, e, api.ErrRange)
					s, e = assemble.Cut(a, x[0], x[1])
					isError(t, "Cut far away", s, e, api.ErrRange)
				}
			}
		}
	}
}

// P10.3: the error of sheet.Check comes before all others.
func TestPlacesOfBadSheets(t *testing.T) {
	for i, x := range badSheets() {
		what := "the sheet " + strconv.Itoa(i)
		s, e := assemble.Flip(x.s)
		isError(t, "Flip of "+what, s, e, x.want)
		s, e = assemble.Mirror(x.s)
		isError(t, "Mirror of "+what, s, e, x.want)
		for _, n := range append(far(), -1, 0, 1, 2, 24, 25) {
			for _, m := range []int{0, -1, 1, 24} {
				s, e = assemble.Place(x.s, m, n)
				isError(t, "Place of "+what, s, e, x.want)
				s, e = assemble.Cut(x.s, m, n)
				isError(t, "Cut of "+what, s, e, x.want)
			}
		}
	}
}

// P10.3: Flip, Mirror, Place and Cut of many sheets, against the judge.
func TestManyPlaces(t *testing.T) {
	some, left := 0, 0
	manySheets(3, 3000, func(r *rand.Rand, a api.Sheet) {
		want, error := turnOf(a, flips)
		s, e := assemble.Flip(a)
		is(t, "Flip", s, e, want, error)
		want, error = turnOf(a, mirrors)
		s, e = assemble.Mirror(a)
		is(t, "Mirror", s, e, want, error)
		from, n := r.Intn(6), a.Pairs+r.Intn(10)
		want, error = placeOf(a, from, n)
		s, e = assemble.Place(a, from, n)
		is(t, "Place", s, e, want, error)
		from = r.Intn(a.Pairs - 1)
		to := from + 1 + r.Intn(a.Pairs-1-from)
		want, error = cutOf(a, from, to)
		s, e = assemble.Cut(a, from, to)
		is(t, "Cut", s, e, want, error)
		// A work in the places of the cut that is left out is what the definition is about.
		inside := slices.DeleteFunc(slices.Clone(a.Works), func(w api.Work) bool { return w.At < from || w.At+1 > to })
		if len(s.Works) > 1 {
			some++
		}
		if len(inside) > len(s.Works) {
			left++
		}
	})
	if some < 1000 || left < 1000 {
		t.Errorf("%d cuts have works, and %d leave out works in their places", some, left)
	}
}
