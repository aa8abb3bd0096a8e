package assemble_test

import (
	"math"
	"math/rand"
	"slices"
	"strconv"
	"strings"
	"testing"

	"torchon/api"
	"torchon/assemble"
	"torchon/pattern"
)

// exampleE returns the pattern E of chapter 8.
func exampleE() api.Pattern {
	return api.Pattern{
		Name:     "edging",
		Pairs:    6,
		Stitches: []api.PtStitch{{Name: "half", Word: "CT"}, {Name: "cloth", Word: "CTC"}},
		Units:    []api.PtUnit{{Name: "net", Pairs: 2, Rows: [][]api.PtCell{{{At: 0, Stitch: 0}}, {{At: 0, Stitch: 1}}}}},
		Parts:    []api.PtPart{ground("net", 0, 4, 2), flipped(motif("footside", 4, 2, 1, 2)), sewing(2)},
	}
}

// with returns a pattern with other parts.
func with(p api.Pattern, parts ...api.PtPart) api.Pattern {
	p.Parts = parts
	return p
}

// made holds Sheet against what is wanted.
func made(t *testing.T, what string, p api.Pattern, want api.Sheet) {
	t.Helper()
	s, bad, e := assemble.Sheet(p)
	isSheet(t, what, s, e, want)
	if bad != 0 {
		t.Errorf("%s: bad is %d", what, bad)
	}
}

// notMade holds Sheet against the index and the error that are wanted.
func notMade(t *testing.T, what string, p api.Pattern, want int, error api.Errno) {
	t.Helper()
	s, bad, e := assemble.Sheet(p)
	isError(t, what, s, e, error)
	if bad != want {
		t.Errorf("%s: bad is %d, want %d", what, bad, want)
	}
}

// P10.1: the example of the chapter.
func TestSheetOfExample(t *testing.T) {
	made(t, "E", exampleE(), stitchesOf(6, "CT@0 CT@2 CTC@0 CTC@2 CT@0 CT@2 CTC@0 CTC@2 CTC@4 RRP@4 CTC@4 CTC@4 RRP@4 CTC@4 @2"))
	p := exampleE()
	p.Parts[1].From, p.Parts[1].Pairs = 3, 3
	notMade(t, "footside on three pairs", p, 1, assemble.ErrWide)
}

// wide returns a pattern with a unit of three pairs with two cells in its first row, none in its second one, and one in its third one.
func wide() api.Pattern {
	return api.Pattern{
		Name:     "wide",
		Pairs:    10,
		Stitches: []api.PtStitch{{Name: "a", Word: "CL"}, {Name: "b", Word: "rP"}, {Name: "none", Word: ""}},
		Units: []api.PtUnit{
			{Name: "other", Pairs: 2, Rows: [][]api.PtCell{{{At: 0, Stitch: 2}}}},
			{Name: "net", Pairs: 5, Rows: [][]api.PtCell{{{At: 0, Stitch: 0}, {At: 3, Stitch: 1}}, {}, {{At: 1, Stitch: 1}}}},
			{Name: "empty", Pairs: 3},
		},
	}
}

// P10.1: the sheets of parts: the order of the works of a ground, what is flipped, and where parts begin.
func TestSheetOfParts(t *testing.T) {
	p := wide()
	once := "CL@0 rP@3 CL@5 rP@8 rP@1 rP@6 "
	for _, x := range []struct {
		what  string
		parts []api.PtPart
		want  string
	}{
		{"nothing", nil, ""},
		{"ground", []api.PtPart{ground("net", 0, 10, 1)}, once},
		{"three times", []api.PtPart{ground("net", 0, 10, 3)}, once + once + once},
		{"one copy at 2", []api.PtPart{ground("net", 2, 5, 2)}, "CL@2 rP@5 rP@3 CL@2 rP@5 rP@3"},
		{"flipped ground", []api.PtPart{flipped(ground("net", 0, 10, 1))}, "CR@8 lP@5 CR@3 lP@0 lP@7 lP@2"},
		{"flipped ground at 3", []api.PtPart{flipped(ground("net", 3, 5, 1))}, "CR@6 lP@3 lP@5"},
		{"unit without rows", []api.PtPart{ground("empty", 1, 9, 200)}, ""},
		{"words without letters", []api.PtPart{{Kind: api.PtGround, Name: "other", From: 6, Pairs: 4, Times: 1}}, "none@6 none@8"},
		{"sewings", []api.PtPart{sewing(8), sewing(0), sewing(8)}, "@8 @0 @8"},
		{"picot", []api.PtPart{motif("picot", 7, 2, 2)}, "LLPLL@7"},
		{"flipped picot", []api.PtPart{flipped(motif("picot", 7, 2, 2))}, "RRPRR@7"},
		{"fan", []api.PtPart{motif("fan", 1, 3, 2)}, "CTC@1 RP@1 CTC@1 CTC@1 CTC@2 RP@2 CTC@2 CTC@1 CTC@1 RP@1 CTC@1"},
		{"flipped fan", []api.PtPart{flipped(motif("fan", 1, 3, 2))}, "CTC@2 LP@2 CTC@2 CTC@2 CTC@1 LP@1 CTC@1 CTC@2 CTC@2 LP@2 CTC@2"},
		{"flipped windmill", []api.PtPart{flipped(motif("windmill", 4, 4))}, "CTC@5 CTC@6 CTC@4 P@5 CTC@5"},
		{"parts stay in order", []api.PtPart{sewing(3), motif("plait", 8, 2, 2), ground("net", 5, 5, 1), sewing(0)}, "@3 CT@8 CT@8 CL@5 rP@8 rP@6 @0"},
	} {
		want := stitchesOf(10, x.want)
		for i, w := range want.Works {
			if w.Word == "none" {
				want.Works[i].Word = ""
			}
		}
		made(t, x.what, with(p, x.parts...), want)
	}
}

// P10.1: Sheet of many patterns, also with errors of their parts, against the judge.
func TestSheetOfManyPatterns(t *testing.T) {
	r := rand.New(rand.NewSource(10))
	met := map[api.Errno]int{}
	behind := 0
	for range 20000 {
		p := somePattern(r)
		for range r.Intn(3) {
			spoilPart(r, &p)
		}
		want, index, error := sheetOf(p)
		s, bad, e := assemble.Sheet(p)
		if !equal(s, want) || bad != index || e != error {
			t.Fatalf("Sheet of %v: %v, %d, %d, want %v, %d, %d", p, s, bad, e, want, index, error)
		}
		met[e]++
		if bad > 0 {
			behind++
		}
	}
	for _, e := range []api.Errno{api.OK, api.ErrArg, api.ErrLong, api.ErrNone, api.ErrRange, assemble.ErrWide, pattern.ErrUnit} {
		if met[e] < 30 {
			t.Errorf("the error %d was met %d times", e, met[e])
		}
	}
	if behind < 500 {
		t.Errorf("only %d errors were not in the first part", behind)
	}
}

// spoilPart changes something of a part so that it may have an error.
func spoilPart(r *rand.Rand, p *api.Pattern) {
	if len(p.Parts) == 0 {
		return
	}
	x := &p.Parts[r.Intn(len(p.Parts))]
	switch r.Intn(6) {
	case 0:
		x.Name = []string{"star", "fan", "u0", "Fan"}[r.Intn(4)]
	case 1:
		x.Pairs += r.Intn(3) - 1
	case 2:
		x.From = max(0, x.From-1)
		x.Pairs++
	case 3:
		x.Sizes = append(slices.Clone(x.Sizes), r.Intn(20))
	case 4:
		for i := range x.Sizes {
			x.Sizes[i] = r.Intn(101)
		}
	case 5:
		x.Times *= 40
	}
}

// P10.1: the errors of pattern.Check come first, with the index 0, wherever the fault is.
func TestErrorsOfCheck(t *testing.T) {
	faults := map[string]func(p *api.Pattern){
		"41 stitches":      func(p *api.Pattern) { p.Stitches = slices.Repeat(p.Stitches, 21) },
		"31 units":         func(p *api.Pattern) { p.Units = slices.Repeat(p.Units, 31) },
		"101 parts":        func(p *api.Pattern) { p.Parts = slices.Repeat(p.Parts, 34) },
		"no name":          func(p *api.Pattern) { p.Name = "" },
		"one pair":         func(p *api.Pattern) { p.Pairs = 1 },
		"25 pairs":         func(p *api.Pattern) { p.Pairs = 25 },
		"a long word":      func(p *api.Pattern) { p.Stitches[1].Word = strings.Repeat("C", 17) },
		"no word":          func(p *api.Pattern) { p.Stitches[1].Word = "x" },
		"stitches twice":   func(p *api.Pattern) { p.Stitches[1].Name = "half" },
		"a cell":           func(p *api.Pattern) { p.Units[0].Rows[1][0].At = 1 },
		"no such stitch":   func(p *api.Pattern) { p.Units[0].Rows[1][0].Stitch = 2 },
		"no kind":          func(p *api.Pattern) { p.Parts[2].Kind = 4 },
		"no such unit":     func(p *api.Pattern) { p.Parts[0].Name = "half" },
		"half a unit":      func(p *api.Pattern) { p.Parts[0].Pairs = 3 },
		"times 0":          func(p *api.Pattern) { p.Parts[0].Times = 0 },
		"sizes of grounds": func(p *api.Pattern) { p.Parts[0].Sizes = []int{1} },
		"402 works":        func(p *api.Pattern) { p.Parts[0].Times = 100; p.Parts = append(p.Parts, sewing(0)) },
		"no motif's name":  func(p *api.Pattern) { p.Parts[1].Name = "foot side" },
		"a great size":     func(p *api.Pattern) { p.Parts[1].Sizes = []int{1, 101} },
		"nine sizes":       func(p *api.Pattern) { p.Parts[1].Sizes = make([]int, 9) },
		"times of a motif": func(p *api.Pattern) { p.Parts[1].Times = 1 },
		"a sewing behind":  func(p *api.Pattern) { p.Parts[2].From = 5 },
		"a flipped sewing": func(p *api.Pattern) { p.Parts[2].Flip = true },
		"a wide sewing":    func(p *api.Pattern) { p.Parts[2].Pairs = 3 },
		"far beyond":       func(p *api.Pattern) { p.Parts[2].From = math.MaxInt },
	}
	for what, change := range faults {
		p := exampleE()
		change(&p)
		_, want := pattern.Check(p)
		if want == api.OK {
			t.Errorf("%s is no fault", what)
		}
		notMade(t, what, p, 0, want)
		// So it is if an earlier part has an error of its own.
		p.Parts = append([]api.PtPart{motif("star", 0, 2)}, p.Parts...)
		_, want = pattern.Check(p)
		notMade(t, what+" behind a star", p, 0, want)
	}
}

// P10.1: the errors of motifs.Make, and ErrWide, with the index of the first part that has an error.
func TestErrorsOfMotifs(t *testing.T) {
	for _, x := range []struct {
		part api.PtPart
		want api.Errno
	}{
		{motif("star", 0, 2), api.ErrNone},
		{motif("Plait", 0, 2, 1), api.ErrNone},
		{motif("net", 0, 2), api.ErrNone},
		{motif("plait", 0, 2), api.ErrArg},
		{motif("windmill", 0, 4, 1), api.ErrArg},
		{motif("spider", 0, 4, 2), api.ErrArg},
		{motif("footside", 0, 4, 3, 1, 1), api.ErrArg},
		{motif("plait", 0, 2, 0), api.ErrRange},
		{motif("picot", 0, 2, 8), api.ErrRange},
		{motif("fan", 0, 6, 13), api.ErrRange},
		{motif("spider", 0, 6, 7, 0), api.ErrRange},
		{motif("spider", 0, 4, 2, 17), api.ErrRange},
		{motif("footside", 0, 4, 3, 0), api.ErrRange},
		{motif("footside", 0, 6, 5, 37), api.ErrLong},
		{motif("footside", 0, 2, 23, 100), api.ErrLong},
		{motif("plait", 0, 3, 1), assemble.ErrWide},
		{motif("spider", 0, 3, 2, 0), assemble.ErrWide},
		{motif("spider", 0, 5, 2, 0), assemble.ErrWide},
		{motif("fan", 0, 4, 2), assemble.ErrWide},
		{motif("fan", 0, 2, 12), assemble.ErrWide},
		{motif("footside", 0, 2, 23, 1), assemble.ErrWide},
		{motif("footside", 0, 6, 1, 1), assemble.ErrWide},
		{motif("windmill", 0, 2), assemble.ErrWide},
		{motif("windmill", 0, 6), assemble.ErrWide},
	} {
		for i, part := range []api.PtPart{x.part, flipped(x.part)} {
			what := x.part.Name + " " + strconv.Itoa(i)
			notMade(t, what+" alone", with(exampleE(), part), 0, x.want)
			notMade(t, what+" behind others", with(exampleE(), append(exampleE().Parts, part, sewing(0))...), 3, x.want)
			// Of several parts with errors the first one counts.
			notMade(t, what+" and a star", with(exampleE(), sewing(0), part, motif("star", 0, 2)), 1, x.want)
			notMade(t, what+" and a wide plait", with(exampleE(), part, motif("plait", 0, 3, 1)), 0, x.want)
			notMade(t, what+" and many works", with(exampleE(), sewing(0), part, motif("footside", 0, 2, 1, 100), motif("plait", 0, 2, 100), motif("plait", 0, 2, 100)), 1, x.want)
			// In a part, what is wrong with the motif comes before the number of works.
			notMade(t, what+" behind 400 works", with(exampleE(), ground("net", 0, 4, 100), part), 1, x.want)
			notMade(t, what+" behind 401 works", with(exampleE(), ground("net", 0, 4, 100), motif("plait", 0, 2, 1), part), 1, api.ErrLong)
		}
	}
}

// P10.1: there may be 400 works up to each part, and the first part with more is named.
func TestManyWorks(t *testing.T) {
	full := ground("net", 0, 4, 100)
	for i, x := range []struct {
		parts []api.PtPart
		works int
		bad   int
		want  api.Errno
	}{
		{[]api.PtPart{full}, 400, 0, api.OK},
		{[]api.PtPart{full, motif("plait", 0, 2, 1)}, 0, 1, api.ErrLong},
		{[]api.PtPart{motif("plait", 0, 2, 1), full}, 0, 1, api.ErrLong},
		{[]api.PtPart{motif("plait", 0, 2, 1), full, motif("star", 0, 2)}, 0, 1, api.ErrLong},
		{[]api.PtPart{motif("plait", 0, 2, 4), ground("net", 0, 4, 99)}, 400, 0, api.OK},
		{[]api.PtPart{motif("plait", 0, 2, 5), ground("net", 0, 4, 99)}, 0, 1, api.ErrLong},
		{[]api.PtPart{motif("plait", 0, 2, 3), ground("net", 0, 4, 99), sewing(0)}, 400, 0, api.OK},
		{[]api.PtPart{motif("plait", 0, 2, 4), ground("net", 0, 4, 99), sewing(0)}, 0, 2, api.ErrLong},
		{[]api.PtPart{motif("plait", 0, 2, 100), motif("plait", 0, 2, 100), motif("plait", 2, 2, 100), motif("plait", 0, 2, 100)}, 400, 0, api.OK},
		{[]api.PtPart{motif("plait", 0, 2, 100), motif("plait", 0, 2, 100), motif("plait", 2, 2, 100), motif("plait", 0, 2, 100), motif("picot", 0, 2, 1), motif("star", 0, 2)}, 0, 4, api.ErrLong},
		{[]api.PtPart{motif("footside", 0, 3, 2, 80)}, 400, 0, api.OK},
		{[]api.PtPart{flipped(motif("footside", 0, 3, 2, 80)), sewing(4)}, 0, 1, api.ErrLong},
		{[]api.PtPart{motif("footside", 0, 3, 2, 79), motif("plait", 0, 2, 5), ground("empty", 0, 6, 200)}, 400, 0, api.OK},
		{slices.Repeat([]api.PtPart{motif("plait", 0, 2, 4)}, 100), 400, 0, api.OK},
		{slices.Repeat([]api.PtPart{motif("plait", 0, 2, 5)}, 100), 0, 80, api.ErrLong},
		{slices.Repeat([]api.PtPart{motif("plait", 0, 2, 100)}, 100), 0, 4, api.ErrLong},
	} {
		p := with(exampleE(), x.parts...)
		p.Units = append(p.Units, api.PtUnit{Name: "empty", Pairs: 2})
		s, bad, e := assemble.Sheet(p)
		if len(s.Works) != x.works || bad != x.bad || e != x.want {
			t.Errorf("%d: %d works, %d, %d, want %d, %d, %d", i, len(s.Works), bad, e, x.works, x.bad, x.want)
		}
	}
}

// P10.1: a pattern that reaches all limits, and one with a work more.
func TestSheetLimits(t *testing.T) {
	p := api.Pattern{Name: strings.Repeat("n", 16), Pairs: 24}
	for i := range 40 {
		p.Stitches = append(p.Stitches, api.PtStitch{Name: "s" + strconv.Itoa(i), Word: strings.Repeat("Lr", 8)})
	}
	for i := range 30 {
		u := api.PtUnit{Name: "u" + strconv.Itoa(i), Pairs: 24}
		for k := range 40 {
			u.Rows = append(u.Rows, []api.PtCell{{At: 22, Stitch: k}})
		}
		p.Units = append(p.Units, u)
	}
	for i := range 10 {
		p.Parts = append(p.Parts, flipped(ground("u"+strconv.Itoa(i), 0, 24, 1)))
	}
	want := api.Sheet{Pairs: 24, Works: slices.Repeat([]api.Work{stitch(0, strings.Repeat("Rl", 8))}, 400)}
	made(t, "all limits", p, want)
	notMade(t, "one more", with(p, append(p.Parts, motif("picot", 22, 2, 7))...), 10, api.ErrLong)
}
