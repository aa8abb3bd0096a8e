package pattern_test

import (
	"math"
	"slices"
	"strconv"
	"strings"
	"testing"

	"torchon/api"
	"torchon/pattern"
)

// rich returns a pattern with several stitches, units, and parts of all kinds; it has 400 works.
func rich() api.Pattern {
	return api.Pattern{
		Name:     "rich",
		Pairs:    12,
		Stitches: []api.PtStitch{{Name: "half", Word: "CT"}, {Name: "none", Word: ""}, {Name: "cloth", Word: "CTC"}},
		Units: []api.PtUnit{
			{Name: "net", Pairs: 2, Rows: [][]api.PtCell{{cell(0, 0)}, {}, {cell(0, 2)}}},
			{Name: "half", Pairs: 5, Rows: [][]api.PtCell{{cell(0, 0), cell(2, 1)}, {cell(1, 2), cell(3, 0)}}},
			{Name: "empty", Pairs: 12},
		},
		Parts: []api.PtPart{
			turned(ground("net", 0, 4, 2)),
			motif("spider", 2, 4, 2, 0),
			ground("half", 2, 10, 25),
			sewing(10),
			ground("empty", 0, 12, 200),
			motif("star", 0, 12),
			ground("net", 10, 2, 95),
			sewing(0),
		},
	}
}

func TestRich(t *testing.T) {
	isFault(t, "rich", rich(), api.PtFault{}, api.OK)
	if n, e := pattern.Works(rich()); n != 400 || e != api.OK {
		t.Errorf("Works: %d, %d", n, e)
	}
}

// A flaw makes a pattern wrong; it changes the field that is named.
type flaw struct {
	field  string
	change func(p *api.Pattern)
	want   api.PtFault
	e      api.Errno
}

// many returns a list with so many elements behind those that it has; they are made by their indices.
func many[T any](l []T, n int, next func(i int) T) []T {
	for i := len(l); i < n; i++ {
		l = append(l, next(i))
	}
	return l
}

func manyStitches(p *api.Pattern, n int) {
	p.Stitches = many(p.Stitches, n, func(i int) api.PtStitch { return api.PtStitch{Name: "s" + strconv.Itoa(i), Word: "T"} })
}

func manyUnits(p *api.Pattern, n int) {
	p.Units = many(p.Units, n, func(i int) api.PtUnit { return api.PtUnit{Name: "u" + strconv.Itoa(i), Pairs: 2} })
}

func manyParts(p *api.Pattern, n int) {
	p.Parts = many(p.Parts, n, func(i int) api.PtPart { return motif("star", 0, 2) })
}

func manyRows(u *api.PtUnit, n int) {
	u.Rows = many(u.Rows, n, func(i int) []api.PtCell { return nil })
}

// flawsOfAll are the flaws of a whole pattern, in the order in which they count.
func flawsOfAll() []flaw {
	all := fault(api.PtAll, 0)
	return []flaw{
		{"stitches", func(p *api.Pattern) { manyStitches(p, 41) }, all, api.ErrLong},
		{"units", func(p *api.Pattern) { manyUnits(p, 31) }, all, api.ErrLong},
		{"parts", func(p *api.Pattern) { manyParts(p, 101) }, all, api.ErrLong},
		{"name", func(p *api.Pattern) { p.Name = "" }, all, api.ErrForm},
		{"name", func(p *api.Pattern) { p.Name = "a b" }, all, api.ErrForm},
		{"pairs", func(p *api.Pattern) { p.Pairs = 1 }, all, api.ErrRange},
		{"pairs", func(p *api.Pattern) { p.Pairs = 25 }, all, api.ErrRange},
		{"pairs", func(p *api.Pattern) { p.Pairs = math.MinInt }, all, api.ErrRange},
		{"pairs", func(p *api.Pattern) { p.Pairs = math.MaxInt }, all, api.ErrRange},
	}
}

// flawsOfStitch are the flaws of a stitch behind the first one, in the order in which they count.
func flawsOfStitch(i int) []flaw {
	at, n := fault(api.PtStitches, i), strconv.Itoa(i)
	return []flaw{
		{"stitch name " + n, func(p *api.Pattern) { p.Stitches[i].Name = "" }, at, api.ErrForm},
		{"stitch name " + n, func(p *api.Pattern) { p.Stitches[i].Name = "half@0" }, at, api.ErrForm},
		{"stitch word " + n, func(p *api.Pattern) { p.Stitches[i].Word = "CTCTCTCTCTCTCTCTC" }, at, api.ErrLong},
		{"stitch word " + n, func(p *api.Pattern) { p.Stitches[i].Word = "CTX" }, at, api.ErrForm},
		{"stitch word " + n, func(p *api.Pattern) { p.Stitches[i].Word = "-" }, at, api.ErrForm},
		{"stitch name " + n, func(p *api.Pattern) { p.Stitches[i].Name = p.Stitches[i-1].Name }, at, api.ErrTwice},
		{"stitch name " + n, func(p *api.Pattern) { p.Stitches[i].Name = p.Stitches[0].Name }, at, api.ErrTwice},
	}
}

// flawsOfUnit are the flaws of the second unit, in the order in which they count.
func flawsOfUnit() []flaw {
	at := fault(api.PtUnits, 1)
	in := func(row, cell int) api.PtFault { return api.PtFault{What: api.PtUnits, Index: 1, Row: row, Cell: cell} }
	rows := func(p *api.Pattern) [][]api.PtCell { return p.Units[1].Rows }
	return []flaw{
		{"unit name", func(p *api.Pattern) { p.Units[1].Name = "" }, at, api.ErrForm},
		{"unit name", func(p *api.Pattern) { p.Units[1].Name = "_half" }, at, api.ErrForm},
		{"unit pairs", func(p *api.Pattern) { p.Units[1].Pairs = 1 }, at, api.ErrRange},
		{"unit pairs", func(p *api.Pattern) { p.Units[1].Pairs = 25 }, at, api.ErrRange},
		{"unit pairs", func(p *api.Pattern) { p.Units[1].Pairs = math.MinInt }, at, api.ErrRange},
		{"unit rows", func(p *api.Pattern) { manyRows(&p.Units[1], 41) }, at, api.ErrLong},
		{"unit name", func(p *api.Pattern) { p.Units[1].Name = "net" }, at, api.ErrTwice},
		{"cell 0 0", func(p *api.Pattern) { rows(p)[0][0].At = -1 }, in(0, 0), api.ErrRange},
		{"cell 0 0", func(p *api.Pattern) { rows(p)[0][0].At = 4 }, in(0, 0), api.ErrRange},
		{"stitch 0 0", func(p *api.Pattern) { rows(p)[0][0].Stitch = -1 }, in(0, 0), api.ErrNone},
		{"cell 0 1", func(p *api.Pattern) { rows(p)[0][1].At = -1 }, in(0, 1), api.ErrRange},
		{"cell 0 1", func(p *api.Pattern) { rows(p)[0][1].At = 4 }, in(0, 1), api.ErrRange},
		{"cell 0 1", func(p *api.Pattern) { rows(p)[0][1].At = math.MaxInt }, in(0, 1), api.ErrRange},
		{"cell 0 1", func(p *api.Pattern) { rows(p)[0][1].At = 0 }, in(0, 1), api.ErrTwice},
		{"cell 0 1", func(p *api.Pattern) { rows(p)[0][1].At = 1 }, in(0, 1), api.ErrTwice},
		{"stitch 0 1", func(p *api.Pattern) { rows(p)[0][1].Stitch = 41 }, in(0, 1), api.ErrNone},
		{"stitch 0 1", func(p *api.Pattern) { rows(p)[0][1].Stitch = math.MinInt }, in(0, 1), api.ErrNone},
		{"cell 1 1", func(p *api.Pattern) { rows(p)[1][1].At = 2 }, in(1, 1), api.ErrTwice},
	}
}

// flawsOfParts are flaws of the parts, in the order in which they count. Flaws that are described for another kind of parts do not count.
func flawsOfParts() []flaw {
	at := func(i int) api.PtFault { return fault(api.PtParts, i) }
	return []flaw{
		{"kind 1", func(p *api.Pattern) { p.Parts[1].Kind = 0 }, at(1), api.ErrArg},
		{"kind 1", func(p *api.Pattern) { p.Parts[1].Kind = 4 }, at(1), api.ErrArg},
		{"kind 1", func(p *api.Pattern) { p.Parts[1].Kind = -1 }, at(1), api.ErrArg},
		{"place 1", func(p *api.Pattern) { p.Parts[1].From = -1 }, at(1), api.ErrRange},
		{"place 1", func(p *api.Pattern) { p.Parts[1].Pairs = 1 }, at(1), api.ErrRange},
		{"place 1", func(p *api.Pattern) { p.Parts[1].Pairs = -3 }, at(1), api.ErrRange},
		{"place 1", func(p *api.Pattern) { p.Parts[1].From = 9 }, at(1), api.ErrRange},
		{"place 1", func(p *api.Pattern) { p.Parts[1].Pairs = 11 }, at(1), api.ErrRange},
		{"place 1", func(p *api.Pattern) { p.Parts[1].From = math.MaxInt }, at(1), api.ErrRange},
		{"place 1", func(p *api.Pattern) { p.Parts[1].Pairs = math.MaxInt }, at(1), api.ErrRange},
		{"place 1", func(p *api.Pattern) { p.Parts[1].From, p.Parts[1].Pairs = math.MaxInt, math.MaxInt }, at(1), api.ErrRange},
		{"place 1", func(p *api.Pattern) { p.Parts[1].From = math.MinInt }, at(1), api.ErrRange},
		{"name 1", func(p *api.Pattern) { p.Parts[1].Name = "" }, at(1), api.ErrForm},
		{"name 1", func(p *api.Pattern) { p.Parts[1].Name = "a-b" }, at(1), api.ErrForm},
		{"times 1", func(p *api.Pattern) { p.Parts[1].Times = 1 }, at(1), api.ErrArg},
		{"times 1", func(p *api.Pattern) { p.Parts[1].Times = -1 }, at(1), api.ErrArg},
		{"sizes 1", func(p *api.Pattern) { p.Parts[1].Sizes = make([]int, 9) }, at(1), api.ErrLong},
		{"sizes 1", func(p *api.Pattern) { p.Parts[1].Sizes = slices.Repeat([]int{101}, 9) }, at(1), api.ErrLong},
		{"sizes 1", func(p *api.Pattern) { p.Parts[1].Sizes = []int{101} }, at(1), api.ErrRange},
		{"sizes 1", func(p *api.Pattern) { p.Parts[1].Sizes = []int{0, 100, -1} }, at(1), api.ErrRange},
		{"kind 2", func(p *api.Pattern) { p.Parts[2].Kind = 4 }, at(2), api.ErrArg},
		{"place 2", func(p *api.Pattern) { p.Parts[2].From = 3 }, at(2), api.ErrRange},
		{"place 2", func(p *api.Pattern) { p.Parts[2].Pairs = 0 }, at(2), api.ErrRange},
		{"name 2", func(p *api.Pattern) { p.Parts[2].Name = "cloth" }, at(2), api.ErrNone},
		{"name 2", func(p *api.Pattern) { p.Parts[2].Name = "" }, at(2), api.ErrNone},
		{"place 2", func(p *api.Pattern) { p.Parts[2].Pairs = 9 }, at(2), pattern.ErrUnit},
		{"place 2", func(p *api.Pattern) { p.Parts[2].Pairs = 2 }, at(2), pattern.ErrUnit},
		{"times 2", func(p *api.Pattern) { p.Parts[2].Times = 0 }, at(2), api.ErrRange},
		{"times 2", func(p *api.Pattern) { p.Parts[2].Times = 201 }, at(2), api.ErrRange},
		{"times 2", func(p *api.Pattern) { p.Parts[2].Times = math.MaxInt }, at(2), api.ErrRange},
		{"times 2", func(p *api.Pattern) { p.Parts[2].Times = math.MinInt }, at(2), api.ErrRange},
		{"sizes 2", func(p *api.Pattern) { p.Parts[2].Sizes = []int{1} }, at(2), api.ErrArg},
		{"sizes 2", func(p *api.Pattern) { p.Parts[2].Sizes = make([]int, 99) }, at(2), api.ErrArg},
		{"times 2", func(p *api.Pattern) { p.Parts[2].Times = 50 }, at(2), api.ErrFull},
		{"times 2", func(p *api.Pattern) { p.Parts[2].Times = 49 }, at(3), api.ErrFull},
		{"times 6", func(p *api.Pattern) { p.Parts[6].Times = 96 }, at(6), api.ErrFull},
		{"sewing", func(p *api.Pattern) { p.Parts[7].From = 11 }, at(7), api.ErrRange},
		{"sewing", func(p *api.Pattern) { p.Parts[7].Pairs = 1 }, at(7), api.ErrRange},
		{"sewing", func(p *api.Pattern) { p.Parts[7].Pairs = 13 }, at(7), api.ErrRange},
		{"sewing", func(p *api.Pattern) { p.Parts[7].Pairs = 3 }, at(7), api.ErrArg},
		{"sewing", func(p *api.Pattern) { p.Parts[7].Name = "net" }, at(7), api.ErrArg},
		{"sewing", func(p *api.Pattern) { p.Parts[7].Times = 1 }, at(7), api.ErrArg},
		{"sewing", func(p *api.Pattern) { p.Parts[7].Sizes = []int{0} }, at(7), api.ErrArg},
		{"sewing", func(p *api.Pattern) { p.Parts[7].Flip = true }, at(7), api.ErrArg},
		{"part 5", func(p *api.Pattern) { p.Parts[5] = sewing(10) }, at(7), api.ErrFull},
	}
}

func flaws() []flaw {
	return slices.Concat(flawsOfAll(), flawsOfStitch(1), flawsOfStitch(2), flawsOfUnit(), flawsOfParts())
}

// P8.1: each error, and which of two errors counts.
func TestFlaws(t *testing.T) {
	l := flaws()
	for i, a := range l {
		p := rich()
		a.change(&p)
		isFault(t, "with the flaw "+strconv.Itoa(i)+" "+a.field, p, a.want, a.e)
		for j, b := range l[i+1:] {
			if b.field == a.field {
				continue
			}
			q := rich()
			b.change(&q)
			a.change(&q)
			isFault(t, "with the flaws "+strconv.Itoa(i)+" "+a.field+" and "+strconv.Itoa(i+1+j)+" "+b.field, q, a.want, a.e)
		}
	}
}

// P8.1: which strings are names of patterns, stitches, units and motifs.
func TestNames(t *testing.T) {
	set := []struct {
		where api.PtFault
		name  func(p *api.Pattern, s string)
	}{
		{fault(api.PtAll, 0), func(p *api.Pattern, s string) { p.Name = s }},
		{fault(api.PtStitches, 0), func(p *api.Pattern, s string) { p.Stitches[0].Name = s }},
		{fault(api.PtUnits, 0), func(p *api.Pattern, s string) { p.Units[0].Name, p.Parts[0].Name = s, s }},
		{fault(api.PtParts, 1), func(p *api.Pattern, s string) { p.Parts[1].Name = s }},
	}
	for _, x := range set {
		for _, s := range names {
			p := exampleE()
			x.name(&p, s)
			isFault(t, "with the name "+s, p, api.PtFault{}, api.OK)
		}
		for _, s := range noNames {
			p := exampleE()
			x.name(&p, s)
			isFault(t, "with the name "+strconv.Quote(s), p, x.where, api.ErrForm)
		}
	}
}

// P8.1: limits that are just reached are no errors.
func TestLimitsReached(t *testing.T) {
	for i, change := range []func(p *api.Pattern){
		func(p *api.Pattern) { manyStitches(p, 40) },
		func(p *api.Pattern) { manyUnits(p, 30) },
		func(p *api.Pattern) { manyParts(p, 100) },
		func(p *api.Pattern) { manyStitches(p, 40); manyUnits(p, 30); manyParts(p, 100) },
		func(p *api.Pattern) { p.Pairs = 24 },
		func(p *api.Pattern) { p.Stitches[1].Word = strings.Repeat("T", 16) },
		func(p *api.Pattern) { p.Units[1].Name = "cloth"; p.Parts[2].Name = "cloth" },
		func(p *api.Pattern) { manyUnits(p, 4); p.Units[3].Pairs = 24 },
		func(p *api.Pattern) { manyRows(&p.Units[1], 40) },
		func(p *api.Pattern) { p.Units[1].Rows[0] = []api.PtCell{cell(1, 0), cell(3, 0)} },
		func(p *api.Pattern) { p.Parts[1].From, p.Parts[1].Pairs = 0, 12 },
		func(p *api.Pattern) { p.Parts[1].From, p.Parts[1].Pairs = 10, 2 },
		func(p *api.Pattern) { p.Parts[1].Sizes = []int{0, 100, 0, 100, 0, 100, 50, 1} },
		func(p *api.Pattern) { p.Parts[1].Sizes = []int{} },
		func(p *api.Pattern) { p.Parts[2].Times = 1 },
		func(p *api.Pattern) { p.Parts[3].Sizes = []int{} },
		func(p *api.Pattern) { p.Parts[7] = motif("star", 0, 2); p.Parts[6].Times = 95 },
		func(p *api.Pattern) { p.Parts = nil },
		func(p *api.Pattern) { p.Units, p.Parts = nil, nil },
		func(p *api.Pattern) { p.Stitches, p.Units, p.Parts, p.Pairs = nil, nil, nil, 2 },
	} {
		p := rich()
		change(&p)
		isFault(t, "with the change "+strconv.Itoa(i), p, api.PtFault{}, api.OK)
	}
}

// P8.1: a unit on 24 pairs has 12 cells in a row, at 0, 2, .., 22; and a unit may be wider than the pattern.
func TestWideUnit(t *testing.T) {
	var row []api.PtCell
	for at := 0; at <= 22; at += 2 {
		row = append(row, cell(at, at/2%3))
	}
	p := rich()
	p.Units[2] = api.PtUnit{Name: "wide", Pairs: 24, Rows: [][]api.PtCell{row}}
	p.Parts = p.Parts[:4]
	isFault(t, "with a wide unit", p, api.PtFault{}, api.OK)
	p.Parts = []api.PtPart{ground("wide", 0, 12, 1)}
	isFault(t, "with a unit that is too wide", p, fault(api.PtParts, 0), pattern.ErrUnit)
	p.Pairs, p.Parts = 24, []api.PtPart{ground("wide", 0, 24, 33), sewing(22), sewing(0), sewing(1), sewing(2)}
	isFault(t, "with 400 works", p, api.PtFault{}, api.OK)
	p.Parts[0].Times = 34
	isFault(t, "with 408 works", p, fault(api.PtParts, 0), api.ErrFull)
	p.Units[2].Rows[0][11].At = 23
	isFault(t, "with a cell at 23", p, api.PtFault{What: api.PtUnits, Index: 2, Row: 0, Cell: 11}, api.ErrRange)
	p.Units[2].Rows[0] = append(row[:11:11], cell(22, 0), cell(24, 0))
	isFault(t, "with 13 cells", p, api.PtFault{What: api.PtUnits, Index: 2, Row: 0, Cell: 12}, api.ErrRange)
}

// P8.1: the greatest ground that has so many works that they are not counted one by one.
func TestHugeGround(t *testing.T) {
	var row []api.PtCell
	for at := 0; at <= 22; at += 2 {
		row = append(row, cell(at, 0))
	}
	p := api.Pattern{Name: "huge", Pairs: 24, Stitches: []api.PtStitch{{Name: "a"}}, Units: []api.PtUnit{{Name: "u", Pairs: 24, Rows: slices.Repeat([][]api.PtCell{row}, 40)}}}
	p.Parts = slices.Repeat([]api.PtPart{ground("u", 0, 24, 200)}, 100)
	isFault(t, "with 96000 works", p, fault(api.PtParts, 0), api.ErrFull)
	for i := range p.Parts {
		p.Parts[i].Times = 1
	}
	isFault(t, "with 480 works", p, fault(api.PtParts, 0), api.ErrFull)
	p.Units[0].Rows = p.Units[0].Rows[:33]
	isFault(t, "with 396 works, and as many again", p, fault(api.PtParts, 1), api.ErrFull)
}
