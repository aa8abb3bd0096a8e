package assemble_test

import (
	"math/rand"
	"slices"
	"strconv"
	"testing"

	"torchon/api"
	"torchon/motifs"
	"torchon/pattern"
	"torchon/sheet"
)

func someWord(r *rand.Rand) string {
	word := make([]byte, r.Intn(17))
	for i := range word {
		word[i] = "CLRTPclrt"[r.Intn(9)]
	}
	return string(word)
}

// someSheet returns a sheet with so many works on so many pairs.
func someSheet(r *rand.Rand, pairs, works int) api.Sheet {
	s := api.Sheet{Pairs: pairs}
	for range works {
		w := stitch(r.Intn(pairs-1), someWord(r))
		if r.Intn(6) == 0 {
			w = sew(w.At)
		}
		s.Works = append(s.Works, w)
	}
	return s
}

// manySheets calls with many sheets: small ones, of few works on many pairs, and such that reach the limits.
func manySheets(seed int64, n int, call func(r *rand.Rand, s api.Sheet)) {
	r := rand.New(rand.NewSource(seed))
	for range n {
		call(r, someSheet(r, 2+r.Intn(6), r.Intn(20)))
		call(r, someSheet(r, 2+r.Intn(23), r.Intn(8)))
	}
	call(r, api.Sheet{Pairs: 2})
	call(r, api.Sheet{Pairs: 24})
	call(r, someSheet(r, 24, 400))
	call(r, someSheet(r, 2, 400))
}

func ground(name string, from, pairs, times int) api.PtPart {
	return api.PtPart{Kind: api.PtGround, Name: name, From: from, Pairs: pairs, Times: times}
}

func motif(name string, from, pairs int, sizes ...int) api.PtPart {
	return api.PtPart{Kind: api.PtMotif, Name: name, From: from, Pairs: pairs, Sizes: sizes}
}

func sewing(from int) api.PtPart { return api.PtPart{Kind: api.PtSew, From: from, Pairs: 2} }

// flipped returns a part with the other Flip.
func flipped(x api.PtPart) api.PtPart {
	x.Flip = !x.Flip
	return x
}

func someUnit(r *rand.Rand, name string, most, stitches int) api.PtUnit {
	u := api.PtUnit{Name: name, Pairs: 2 + r.Intn(most-1)}
	for range r.Intn(4) {
		var row []api.PtCell
		for at := r.Intn(3); at <= u.Pairs-2; at += 2 + r.Intn(2) {
			row = append(row, api.PtCell{At: at, Stitch: r.Intn(stitches)})
		}
		u.Rows = append(u.Rows, row)
	}
	return u
}

// sizesOf returns sizes of which there is a motif with a name.
func sizesOf(r *rand.Rand, name string) []int {
	switch name {
	case "plait":
		return []int{1 + r.Intn(20)}
	case "picot":
		return []int{1 + r.Intn(7)}
	case "spider":
		return []int{1 + r.Intn(6), r.Intn(17)}
	case "fan":
		return []int{1 + r.Intn(12)}
	case "footside":
		return []int{1 + r.Intn(9), 1 + r.Intn(4)}
	}
	return nil
}

// somePart returns a part of a pattern that has units but need not have a part without faults.
func somePart(r *rand.Rand, p api.Pattern) api.PtPart {
	x := sewing(r.Intn(p.Pairs - 1))
	switch r.Intn(5) {
	case 0:
		return x
	case 1, 2:
		u := p.Units[r.Intn(len(p.Units))]
		if u.Pairs > p.Pairs {
			return x
		}
		pairs := u.Pairs * (1 + r.Intn(p.Pairs/u.Pairs))
		x = ground(u.Name, r.Intn(p.Pairs-pairs+1), pairs, 1+r.Intn(3))
	case 3, 4:
		name := motifs.Names()[r.Intn(6)]
		sizes := sizesOf(r, name)
		width, e := motifs.Width(name, sizes)
		if e != api.OK || width > p.Pairs {
			return x
		}
		x = motif(name, r.Intn(p.Pairs-width+1), width, sizes...)
	}
	x.Flip = r.Intn(2) == 0
	return x
}

// somePattern returns a pattern with stitches and units whose parts have sheets; it may have too many works.
func somePattern(r *rand.Rand) api.Pattern {
	p := api.Pattern{Name: "some", Pairs: 2 + r.Intn(23)}
	for i := range 1 + r.Intn(5) {
		p.Stitches = append(p.Stitches, api.PtStitch{Name: "s" + strconv.Itoa(i), Word: someWord(r)})
	}
	for i := range 1 + r.Intn(4) {
		p.Units = append(p.Units, someUnit(r, "u"+strconv.Itoa(i), 8, len(p.Stitches)))
	}
	for range r.Intn(8) {
		p.Parts = append(p.Parts, somePart(r, p))
	}
	return p
}

// manyPatterns calls with many patterns that have sheets.
func manyPatterns(seed int64, n int, call func(r *rand.Rand, p api.Pattern)) {
	r := rand.New(rand.NewSource(seed))
	for range n {
		p := somePattern(r)
		for _, _, e := sheetOf(p); e != api.OK; _, _, e = sheetOf(p) {
			p.Parts = p.Parts[:len(p.Parts)-1]
		}
		call(r, p)
	}
}

// The sheets and patterns with which the other tests are made are valid, and of many sorts.
func TestManySheetsAndPatterns(t *testing.T) {
	met := map[string]int{}
	meet := func(what string, is bool) {
		if is {
			met[what]++
		}
	}
	manySheets(1, 500, func(r *rand.Rand, s api.Sheet) {
		if e := sheet.Check(s); e != api.OK {
			t.Fatalf("%v: %d", s, e)
		}
		meet("two pairs", s.Pairs == 2)
		meet("no works", len(s.Works) == 0)
		meet("sewings", slices.ContainsFunc(s.Works, func(w api.Work) bool { return w.Kind == api.WkSew }))
		meet("longest words", slices.ContainsFunc(s.Works, func(w api.Work) bool { return len(w.Word) == 16 }))
	})
	manyPatterns(1, 2000, func(r *rand.Rand, p api.Pattern) {
		if _, e := pattern.Check(p); e != api.OK {
			t.Fatalf("%v: %d", p, e)
		}
		s, _, _ := sheetOf(p)
		meet("many works", len(s.Works) > 300)
		meet("no parts", len(p.Parts) == 0)
		for _, x := range p.Parts {
			what := []string{"", "ground", "", "sewing"}[x.Kind]
			if x.Kind == api.PtMotif {
				what = x.Name
			}
			meet(what, !x.Flip)
			meet(what+" flipped", x.Flip)
			meet("ground with several copies", x.Kind == api.PtGround && x.Pairs > 8)
			meet("ground with several times", x.Times > 1)
		}
	})
	if len(met) != 23 {
		t.Errorf("only %v", met)
	}
	for what, n := range met {
		if n < 10 {
			t.Errorf("%s: %d times", what, n)
		}
	}
}
