package pattern_test

import (
	"math/rand"
	"slices"
	"testing"

	"torchon/api"
	"torchon/pattern"
)

// A made is a work, by its part and its stitch; that of a sewing is -1.
type made struct{ part, stitch int }

// worksOf makes the grounds and sewings of a valid pattern, work by work.
func worksOf(p api.Pattern) []made {
	var l []made
	for i, x := range p.Parts {
		switch x.Kind {
		case api.PtSew:
			l = append(l, made{i, -1})
		case api.PtGround:
			for _, u := range p.Units {
				if u.Name == x.Name {
					l = append(l, worksOfGround(i, x, u)...)
				}
			}
		}
	}
	return l
}

func worksOfGround(i int, x api.PtPart, u api.PtUnit) []made {
	var l []made
	for range x.Times {
		for _, row := range u.Rows {
			for from := 0; from < x.Pairs; from += u.Pairs {
				for _, c := range row {
					l = append(l, made{i, c.Stitch})
				}
			}
		}
	}
	return l
}

// usesOf counts works by their stitches, and grounds by their units.
func usesOf(p api.Pattern) (stitches, units []int) {
	stitches, units = make([]int, len(p.Stitches)), make([]int, len(p.Units))
	for _, w := range worksOf(p) {
		if w.stitch >= 0 {
			stitches[w.stitch]++
		}
	}
	for _, x := range p.Parts {
		for k, u := range p.Units {
			if x.Kind == api.PtGround && x.Name == u.Name {
				units[k]++
			}
		}
	}
	return stitches, units
}

// counted returns what Works and Uses return, which must be OK.
func counted(t *testing.T, p api.Pattern) (works int, stitches, units []int) {
	t.Helper()
	works, e := pattern.Works(p)
	stitches, units, f := pattern.Uses(p)
	if e != api.OK || f != api.OK {
		t.Fatalf("Works and Uses of %v: %d, %d", p, e, f)
	}
	return works, stitches, units
}

// P8.2: Works and Uses of some patterns.
func TestWorks(t *testing.T) {
	wide := api.PtUnit{Name: "wide", Pairs: 3, Rows: [][]api.PtCell{{cell(1, 1)}, {}, {cell(0, 1)}, {cell(0, 0)}}}
	for i, c := range []struct {
		parts                  []api.PtPart
		works                  int
		stitchesUsed, unitUsed []int
	}{
		{nil, 0, []int{0, 0}, []int{0, 0}},
		{[]api.PtPart{sewing(0)}, 1, []int{0, 0}, []int{0, 0}},
		{[]api.PtPart{sewing(0), sewing(0), sewing(4)}, 3, []int{0, 0}, []int{0, 0}},
		{[]api.PtPart{motif("net", 0, 2), motif("wide", 0, 6, 100, 0)}, 0, []int{0, 0}, []int{0, 0}},
		{[]api.PtPart{ground("net", 0, 2, 1)}, 2, []int{1, 1}, []int{1, 0}},
		{[]api.PtPart{ground("net", 2, 2, 7)}, 14, []int{7, 7}, []int{1, 0}},
		{[]api.PtPart{turned(ground("net", 0, 6, 1))}, 6, []int{3, 3}, []int{1, 0}},
		{[]api.PtPart{ground("wide", 2, 3, 1)}, 3, []int{1, 2}, []int{0, 1}},
		{[]api.PtPart{ground("wide", 0, 6, 5)}, 30, []int{10, 20}, []int{0, 1}},
		{[]api.PtPart{ground("wide", 0, 6, 1), ground("net", 0, 6, 2), sewing(3), ground("wide", 1, 3, 4)}, 31, []int{12, 18}, []int{1, 2}},
		{[]api.PtPart{ground("net", 4, 2, 200)}, 400, []int{200, 200}, []int{1, 0}},
	} {
		p := withParts(c.parts...)
		p.Units = append(p.Units, wide)
		works, stitches, units := counted(t, p)
		if works != c.works || !slices.Equal(stitches, c.stitchesUsed) || !slices.Equal(units, c.unitUsed) {
			t.Errorf("%d: %d, %v, %v", i, works, stitches, units)
		}
	}
}

// P8.2: units and stitches with the same names are not taken for each other, and names of motifs are not those of units.
func TestSameNames(t *testing.T) {
	p := exampleE()
	p.Units[0].Name, p.Parts[0].Name = "half", "half"
	p.Units = append(p.Units, api.PtUnit{Name: "footside", Pairs: 2, Rows: [][]api.PtCell{{cell(0, 1)}}})
	p.Parts = append(p.Parts, ground("footside", 0, 6, 1))
	if works, stitches, units := counted(t, p); works != 12 || !slices.Equal(stitches, []int{4, 7}) || !slices.Equal(units, []int{1, 1}) {
		t.Errorf("%d, %v, %v", works, stitches, units)
	}
}

// P8.2: Works and Uses of many patterns, against works that are made one by one.
func TestWorksOfManyPatterns(t *testing.T) {
	manyPatterns(3, 3000, func(_ *rand.Rand, p api.Pattern) {
		works, stitches, units := counted(t, p)
		wantStitches, wantUnits := usesOf(p)
		if works != len(worksOf(p)) || !slices.Equal(stitches, wantStitches) || !slices.Equal(units, wantUnits) {
			t.Fatalf("%v: %d, %v, %v", p, works, stitches, units)
		}
	})
}

// sum adds two lists, number by number.
func sum(a, b []int) []int {
	l := slices.Clone(a)
	for i := range b {
		l[i] += b[i]
	}
	return l
}

// P8.6: Works and Uses of the first parts and of the others add up to those of all.
func TestDividedParts(t *testing.T) {
	manyPatterns(4, 2000, func(r *rand.Rand, p api.Pattern) {
		works, stitches, units := counted(t, p)
		for _, k := range []int{0, r.Intn(len(p.Parts) + 1), len(p.Parts)} {
			first, others := p, p
			first.Parts, others.Parts = p.Parts[:k], p.Parts[k:]
			w, s, u := counted(t, first)
			v, o, n := counted(t, others)
			if w+v != works || !slices.Equal(sum(s, o), stitches) || !slices.Equal(sum(u, n), units) {
				t.Fatalf("%v, divided at %d: %d and %d, %v and %v, %v and %v", p, k, w, v, s, o, u, n)
			}
		}
	})
}
