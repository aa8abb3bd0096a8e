package pattern_test

import (
	"slices"
	"strings"
	"testing"

	"torchon/api"
	"torchon/pattern"
)

func cell(at, stitch int) api.PtCell { return api.PtCell{At: at, Stitch: stitch} }

func ground(name string, from, pairs, times int) api.PtPart {
	return api.PtPart{Kind: api.PtGround, Name: name, From: from, Pairs: pairs, Times: times}
}

func motif(name string, from, pairs int, sizes ...int) api.PtPart {
	return api.PtPart{Kind: api.PtMotif, Name: name, From: from, Pairs: pairs, Sizes: sizes}
}

func sewing(from int) api.PtPart { return api.PtPart{Kind: api.PtSew, From: from, Pairs: 2} }

func turned(x api.PtPart) api.PtPart {
	x.Flip = !x.Flip
	return x
}

// exampleE returns the pattern E of the chapter.
func exampleE() api.Pattern {
	return api.Pattern{
		Name:     "edging",
		Pairs:    6,
		Stitches: []api.PtStitch{{Name: "half", Word: "CT"}, {Name: "cloth", Word: "CTC"}},
		Units:    []api.PtUnit{{Name: "net", Pairs: 2, Rows: [][]api.PtCell{{cell(0, 0)}, {cell(0, 1)}}}},
		Parts:    []api.PtPart{ground("net", 0, 4, 2), turned(motif("footside", 4, 2, 1, 2)), sewing(2)},
	}
}

const textE = "pattern edging 6\nstitch half CT\nstitch cloth CTC\nunit net 2\nrow half@0\nrow cloth@0\nground net 0 4 2\nmotif footside 4 2 1,2 flip\nsew 2\n"

// withParts returns E with other parts.
func withParts(l ...api.PtPart) api.Pattern {
	p := exampleE()
	p.Parts = l
	return p
}

func equalUnits(u, v api.PtUnit) bool {
	return u.Name == v.Name && u.Pairs == v.Pairs && slices.EqualFunc(u.Rows, v.Rows, slices.Equal[[]api.PtCell])
}

func equalParts(x, y api.PtPart) bool {
	return x.Kind == y.Kind && x.Name == y.Name && x.From == y.From && x.Pairs == y.Pairs && x.Times == y.Times && slices.Equal(x.Sizes, y.Sizes) && x.Flip == y.Flip
}

// equal reports whether two patterns are equal; lists may be nil or empty.
func equal(p, q api.Pattern) bool {
	return p.Name == q.Name && p.Pairs == q.Pairs && slices.Equal(p.Stitches, q.Stitches) && slices.EqualFunc(p.Units, q.Units, equalUnits) && slices.EqualFunc(p.Parts, q.Parts, equalParts)
}

// copied returns a pattern in new memory.
func copied(p api.Pattern) api.Pattern {
	p.Stitches, p.Units, p.Parts = slices.Clone(p.Stitches), slices.Clone(p.Units), slices.Clone(p.Parts)
	for i, u := range p.Units {
		p.Units[i].Rows = slices.Clone(u.Rows)
		for j, row := range u.Rows {
			p.Units[i].Rows[j] = slices.Clone(row)
		}
	}
	for i, x := range p.Parts {
		p.Parts[i].Sizes = slices.Clone(x.Sizes)
	}
	return p
}

func fault(what, index int) api.PtFault {
	return api.PtFault{What: what, Index: index, Row: -1, Cell: -1}
}

func isFault(t *testing.T, what string, p api.Pattern, want api.PtFault, error api.Errno) {
	t.Helper()
	if at, e := pattern.Check(p); at != want || e != error {
		t.Errorf("Check %s: %v, %d, want %v, %d", what, at, e, want, error)
	}
}

// The chapter's examples.
func TestExampleE(t *testing.T) {
	p := exampleE()
	isFault(t, "E", p, api.PtFault{}, api.OK)
	if n, e := pattern.Works(p); n != 9 || e != api.OK {
		t.Errorf("Works: %d, %d", n, e)
	}
	if s, u, e := pattern.Uses(p); !slices.Equal(s, []int{4, 4}) || !slices.Equal(u, []int{1}) || e != api.OK {
		t.Errorf("Uses: %v, %v, %d", s, u, e)
	}
	if text, e := pattern.Print(p); text != textE || e != api.OK {
		t.Errorf("Print: %q, %d", text, e)
	}
	if q, n, e := pattern.Parse(textE); !equal(q, p) || n != 0 || e != api.OK {
		t.Errorf("Parse: %v, %d, %d", q, n, e)
	}
	want := withParts(turned(ground("net", 2, 4, 2)), motif("footside", 0, 2, 1, 2), sewing(2))
	if q, e := pattern.Flip(p); !equal(q, want) || e != api.OK {
		t.Errorf("Flip: %v, %d", q, e)
	}
	if q, e := pattern.Tidy(p); !equal(q, p) || e != api.OK {
		t.Errorf("Tidy: %v, %d", q, e)
	}
	p.Parts = p.Parts[1:]
	want = api.Pattern{Name: "edging", Pairs: 6, Parts: []api.PtPart{turned(motif("footside", 4, 2, 1, 2)), sewing(2)}}
	if q, e := pattern.Tidy(p); !equal(q, want) || e != api.OK {
		t.Errorf("Tidy without the ground: %v, %d", q, e)
	}
}

func TestExampleErrors(t *testing.T) {
	p := exampleE()
	p.Parts[0].Pairs = 3
	isFault(t, "a ground of 3 pairs", p, fault(api.PtParts, 0), pattern.ErrUnit)
	p = exampleE()
	p.Parts[0].Times = 101
	isFault(t, "a ground 101 times", p, fault(api.PtParts, 0), api.ErrFull)
	p = exampleE()
	p.Units[0].Rows[1][0].At = 1
	isFault(t, "a cell at 1", p, api.PtFault{What: api.PtUnits, Index: 0, Row: 1, Cell: 0}, api.ErrRange)
	if q, n, e := pattern.Parse("pattern x 2\nrow\n"); !equal(q, api.Pattern{}) || n != 2 || e != api.ErrForm {
		t.Errorf("Parse: %v, %d, %d", q, n, e)
	}
}

func TestErrUnit(t *testing.T) {
	if pattern.ErrUnit != 80 {
		t.Errorf("ErrUnit is %d", pattern.ErrUnit)
	}
}

// names are names of chapter 1, noNames strings that are none.
var (
	names   = []string{"a", "Z", "edging", "half", "a1", "x_", "A_9z", "pattern", "row", "flip", "sew", "sixteen_letters_", strings.Repeat("q", 16)}
	noNames = []string{"", "1", "_", "9a", "_a", "a-b", "a b", "a@0", "@", "-", "a\n", "é", "a\x00", "\xff", `"a"`, "a.", "seventeen_letters", strings.Repeat("q", 17), strings.Repeat("q", 201)}
)
