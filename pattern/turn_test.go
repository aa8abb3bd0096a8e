package pattern_test

import (
	"math/rand"
	"slices"
	"testing"

	"torchon/api"
	"torchon/pattern"
)

// flipped returns what Flip returns, which must be OK.
func flipped(t *testing.T, p api.Pattern) api.Pattern {
	t.Helper()
	q, e := pattern.Flip(p)
	if e != api.OK {
		t.Fatalf("Flip of %v: %d", p, e)
	}
	return q
}

// tidied returns what Tidy returns, which must be OK.
func tidied(t *testing.T, p api.Pattern) api.Pattern {
	t.Helper()
	q, e := pattern.Tidy(p)
	if e != api.OK {
		t.Fatalf("Tidy of %v: %d", p, e)
	}
	return q
}

// P8.3: Flip of some parts.
func TestFlip(t *testing.T) {
	for _, c := range [][2]api.PtPart{
		{ground("net", 0, 2, 3), turned(ground("net", 4, 2, 3))},
		{ground("net", 2, 2, 3), turned(ground("net", 2, 2, 3))},
		{turned(ground("net", 0, 6, 3)), ground("net", 0, 6, 3)},
		{turned(ground("net", 1, 4, 1)), ground("net", 1, 4, 1)},
		{motif("fan", 0, 2, 1), turned(motif("fan", 4, 2, 1))},
		{motif("fan", 2, 3, 1, 0, 7), turned(motif("fan", 1, 3, 1, 0, 7))},
		{turned(motif("fan", 1, 5)), motif("fan", 0, 5)},
		{sewing(0), sewing(4)},
		{sewing(3), sewing(1)},
		{sewing(4), sewing(0)},
	} {
		if q := flipped(t, withParts(c[0])); !equal(q, withParts(c[1])) {
			t.Errorf("Flip with %v: %v", c[0], q.Parts)
		}
	}
	if q := flipped(t, withParts()); !equal(q, withParts()) {
		t.Errorf("Flip without parts: %v", q)
	}
}

// pairsOf returns which pairs of its pattern a part takes.
func pairsOf(x api.PtPart) []int {
	var l []int
	for i := range x.Pairs {
		l = append(l, x.From+i)
	}
	return l
}

// P8.3 and P8.5: Flip of many patterns; each part is on the pairs that are seen from the other side, and nothing else changes.
func TestFlipOfManyPatterns(t *testing.T) {
	manyPatterns(5, 3000, func(_ *rand.Rand, p api.Pattern) {
		q := flipped(t, p)
		if !equal(flipped(t, q), p) {
			t.Fatalf("Flip twice of %v: %v", p, flipped(t, q))
		}
		works, stitches, units := counted(t, p)
		if w, s, u := counted(t, q); w != works || !slices.Equal(s, stitches) || !slices.Equal(u, units) {
			t.Fatalf("Flip of %v: %d, %v, %v", p, w, s, u)
		}
		back := copied(q)
		for i, x := range p.Parts {
			y := &back.Parts[i]
			pairs := pairsOf(*y)
			slices.Reverse(pairs)
			for k, n := range pairsOf(x) {
				if n != p.Pairs-1-pairs[k] {
					t.Fatalf("Flip of %v: part %d: %v", p, i, y)
				}
			}
			if y.Flip == x.Flip && x.Kind != api.PtSew || y.Flip && x.Kind == api.PtSew {
				t.Fatalf("Flip of %v: part %d: %v", p, i, y)
			}
			y.From, y.Flip = x.From, x.Flip
		}
		if !equal(back, p) {
			t.Fatalf("Flip of %v: %v", p, q)
		}
	})
}

// P8.3: Tidy takes out units without a ground, whatever else has their names, and then stitches without a cell.
func TestTidy(t *testing.T) {
	p := api.Pattern{
		Name:     "p",
		Pairs:    4,
		Stitches: []api.PtStitch{{Name: "a", Word: "C"}, {Name: "b", Word: "T"}, {Name: "c", Word: ""}, {Name: "d", Word: "P"}, {Name: "e", Word: "C"}},
		Units: []api.PtUnit{
			{Name: "a", Pairs: 2, Rows: [][]api.PtCell{{cell(0, 0)}, {cell(0, 4)}}},
			{Name: "b", Pairs: 4, Rows: [][]api.PtCell{{cell(0, 3), cell(2, 1)}, {}, {cell(1, 3)}}},
			{Name: "c", Pairs: 2, Rows: [][]api.PtCell{{cell(0, 2)}}},
			{Name: "d", Pairs: 2},
		},
	}
	units := func(l ...api.PtUnit) []api.PtUnit { return l }
	b := api.PtUnit{Name: "b", Pairs: 4, Rows: [][]api.PtCell{{cell(0, 1), cell(2, 0)}, {}, {cell(1, 1)}}}
	bd := []api.PtStitch{{Name: "b", Word: "T"}, {Name: "d", Word: "P"}}
	for i, c := range []struct {
		parts    []api.PtPart
		stitches []api.PtStitch
		units    []api.PtUnit
	}{
		{nil, nil, nil},
		{[]api.PtPart{motif("a", 0, 2), sewing(2)}, nil, nil},
		{[]api.PtPart{ground("d", 0, 4, 1)}, nil, units(p.Units[3])},
		{[]api.PtPart{ground("b", 0, 4, 2)}, bd, units(b)},
		{[]api.PtPart{ground("d", 2, 2, 1), sewing(0), ground("b", 0, 4, 2), motif("a", 0, 2), ground("b", 0, 4, 1)}, bd, units(b, p.Units[3])},
		{[]api.PtPart{ground("c", 2, 2, 1)}, []api.PtStitch{{Name: "c"}}, units(api.PtUnit{Name: "c", Pairs: 2, Rows: [][]api.PtCell{{cell(0, 0)}}})},
		{[]api.PtPart{ground("a", 2, 2, 1)}, []api.PtStitch{{Name: "a", Word: "C"}, {Name: "e", Word: "C"}}, units(api.PtUnit{Name: "a", Pairs: 2, Rows: [][]api.PtCell{{cell(0, 0)}, {cell(0, 1)}}})},
		{[]api.PtPart{ground("c", 2, 2, 1), ground("b", 0, 4, 1), ground("a", 0, 4, 1), ground("d", 0, 4, 1)}, p.Stitches, p.Units},
	} {
		p.Parts = c.parts
		want := p
		want.Stitches, want.Units = c.stitches, c.units
		if q := tidied(t, p); !equal(q, want) {
			t.Errorf("%d: Tidy: %v, want %v", i, q, want)
		}
	}
}

// spelt returns the rows of a unit with the stitches themselves, not their indices.
func spelt(p api.Pattern, u api.PtUnit) [][]api.PtStitch {
	var rows [][]api.PtStitch
	for _, row := range u.Rows {
		l := []api.PtStitch{}
		for _, c := range row {
			l = append(l, api.PtStitch{Name: string(rune('0'+c.At)) + p.Stitches[c.Stitch].Name, Word: p.Stitches[c.Stitch].Word})
		}
		rows = append(rows, l)
	}
	return rows
}

// P8.3 and P8.5: Tidy of many patterns, in which some parts were left out.
func TestTidyOfManyPatterns(t *testing.T) {
	taken := 0
	manyPatterns(6, 3000, func(r *rand.Rand, p api.Pattern) {
		p.Parts = p.Parts[:r.Intn(len(p.Parts)+1)]
		q := tidied(t, p)
		works, stitches, units := counted(t, p)
		w, s, u := counted(t, q)
		if w != works || slices.Contains(s, 0) || slices.Contains(u, 0) || !equal(tidied(t, q), q) {
			t.Fatalf("Tidy of %v: %v", p, q)
		}
		isUsed := func(n int) bool { return n == 0 }
		if !slices.Equal(s, slices.DeleteFunc(slices.Clone(stitches), isUsed)) || !slices.Equal(u, slices.DeleteFunc(slices.Clone(units), isUsed)) {
			t.Fatalf("Tidy of %v: %v and %v, and then %v and %v", p, stitches, units, s, u)
		}
		keptUnits := slices.DeleteFunc(slices.Clone(p.Units), func(u api.PtUnit) bool {
			return !slices.ContainsFunc(p.Parts, func(x api.PtPart) bool { return x.Kind == api.PtGround && x.Name == u.Name })
		})
		sameUnit := func(a, b api.PtUnit) bool {
			return a.Name == b.Name && a.Pairs == b.Pairs && slices.EqualFunc(spelt(p, a), spelt(q, b), slices.Equal[[]api.PtStitch])
		}
		if !slices.EqualFunc(keptUnits, q.Units, sameUnit) {
			t.Fatalf("Tidy of %v: units %v", p, q.Units)
		}
		var keptStitches []api.PtStitch
		for i, s := range p.Stitches {
			has := func(u api.PtUnit) bool {
				return slices.ContainsFunc(slices.Concat(u.Rows...), func(c api.PtCell) bool { return c.Stitch == i })
			}
			if slices.ContainsFunc(keptUnits, has) {
				keptStitches = append(keptStitches, s)
			}
		}
		want := p
		want.Stitches, want.Units = keptStitches, q.Units
		if !equal(q, want) {
			t.Fatalf("Tidy of %v: %v", p, q)
		}
		if 0 < len(q.Stitches) && len(q.Stitches) < len(p.Stitches) && 0 < len(q.Units) && len(q.Units) < len(p.Units) {
			taken++
		}
	})
	if taken < 100 {
		t.Errorf("only %d patterns lose some of their stitches and units", taken)
	}
}
