package pattern_test

import (
	"fmt"
	"math/rand"
	"slices"
	"strings"
	"testing"

	"torchon/api"
	"torchon/pattern"
	"torchon/words"
)

// P8.4: lines of all forms.
func TestPrint(t *testing.T) {
	for _, c := range []struct {
		p    api.Pattern
		want string
	}{
		{api.Pattern{Name: "p", Pairs: 2}, "pattern p 2\n"},
		{api.Pattern{Name: "sixteen_letters_", Pairs: 24}, "pattern sixteen_letters_ 24\n"},
		{api.Pattern{Name: "p", Pairs: 2, Stitches: []api.PtStitch{{Name: "a"}, {Name: "b", Word: "CLRTPclrt"}}}, "pattern p 2\nstitch a -\nstitch b CLRTPclrt\n"},
		{api.Pattern{Name: "p", Pairs: 2, Units: []api.PtUnit{{Name: "u", Pairs: 24}, {Name: "a", Pairs: 2, Rows: [][]api.PtCell{{}, nil}}}}, "pattern p 2\nunit u 24\nunit a 2\nrow\nrow\n"},
		{
			api.Pattern{Name: "p", Pairs: 2, Stitches: []api.PtStitch{{Name: "a"}, {Name: "b"}}, Units: []api.PtUnit{{Name: "a", Pairs: 24, Rows: [][]api.PtCell{{cell(0, 1), cell(3, 0), cell(22, 1)}, {cell(10, 0)}}}}},
			"pattern p 2\nstitch a -\nstitch b -\nunit a 24\nrow b@0 a@3 b@22\nrow a@10\n",
		},
		{withParts(), textE[:strings.Index(textE, "ground")]},
		{rich(), "pattern rich 12\nstitch half CT\nstitch none -\nstitch cloth CTC\nunit net 2\nrow half@0\nrow\nrow cloth@0\nunit half 5\nrow half@0 none@2\nrow cloth@1 half@3\nunit empty 12\n" +
			"ground net 0 4 2 flip\nmotif spider 2 4 2,0\nground half 2 10 25\nsew 10\nground empty 0 12 200\nmotif star 0 12 -\nground net 10 2 95\nsew 0\n"},
	} {
		if text, e := pattern.Print(c.p); text != c.want || e != api.OK {
			t.Errorf("Print of %v: %q, %d, want %q", c.p, text, e, c.want)
		}
	}
}

// P8.4: sizes are written as a list of chapter 1.
func TestPrintSizes(t *testing.T) {
	for want, sizes := range map[string][]int{
		"-": nil, "0": {0}, "1,2": {1, 2}, "1-3": {1, 2, 3}, "3,2,1": {3, 2, 1}, "8x0": {0, 0, 0, 0, 0, 0, 0, 0}, "0,0": {0, 0}, "2x10": {10, 10},
		"100,0,100,1-3,7,9": {100, 0, 100, 1, 2, 3, 7, 9}, "98-100,3x5": {98, 99, 100, 5, 5, 5},
	} {
		for _, flip := range []string{"", " flip"} {
			x := motif("fan", 1, 3, sizes...)
			x.Flip = flip != ""
			text, e := pattern.Print(withParts(x))
			if _, line, _ := strings.Cut(text, "motif"); line != " fan 1 3 "+want+flip+"\n" || e != api.OK {
				t.Errorf("Print with the sizes %v: %q, %d", sizes, text, e)
			}
		}
	}
}

// written returns the text of a valid pattern.
func written(p api.Pattern) string {
	l := []string{fmt.Sprintf("pattern %s %d", p.Name, p.Pairs)}
	for _, s := range p.Stitches {
		l = append(l, "stitch "+s.Name+" "+strings.Replace("-"+s.Word, "-", "", min(len(s.Word), 1)))
	}
	for _, u := range p.Units {
		l = append(l, fmt.Sprintf("unit %s %d", u.Name, u.Pairs))
		for _, row := range u.Rows {
			line := "row"
			for _, c := range row {
				line += fmt.Sprintf(" %s@%d", p.Stitches[c.Stitch].Name, c.At)
			}
			l = append(l, line)
		}
	}
	for _, x := range p.Parts {
		sizes, _ := words.List(x.Sizes)
		if sizes == "" {
			sizes = "-"
		}
		line := map[int]string{
			api.PtGround: fmt.Sprintf("ground %s %d %d %d", x.Name, x.From, x.Pairs, x.Times),
			api.PtMotif:  fmt.Sprintf("motif %s %d %d %s", x.Name, x.From, x.Pairs, sizes),
			api.PtSew:    fmt.Sprintf("sew %d", x.From),
		}[x.Kind]
		if x.Flip {
			line += " flip"
		}
		l = append(l, line)
	}
	return strings.Join(l, "\n") + "\n"
}

// P8.4 and P8.5: Print of many patterns; Parse of the text is the pattern.
func TestPrintOfManyPatterns(t *testing.T) {
	longest := 0
	manyPatterns(7, 3000, func(_ *rand.Rand, p api.Pattern) {
		text, e := pattern.Print(p)
		if text != written(p) || e != api.OK {
			t.Fatalf("Print of %v: %q, %d, want %q", p, text, e, written(p))
		}
		if q, n, e := pattern.Parse(text); !equal(q, p) || n != 0 || e != api.OK {
			t.Fatalf("Parse of %q: %v, %d, %d", text, q, n, e)
		}
		longest = max(longest, strings.Count(text, "\n"))
	})
	if longest < 200 {
		t.Errorf("the longest text has %d lines", longest)
	}
}

// P8.5: the pattern with the longest text is read again.
func TestLongestText(t *testing.T) {
	name := func(first string, i int) string { return first + fmt.Sprintf("_%014d", i) }
	p := api.Pattern{Name: name("p", 0), Pairs: 24}
	for i := range 40 {
		p.Stitches = append(p.Stitches, api.PtStitch{Name: name("s", i), Word: strings.Repeat("t", 16)})
	}
	var row []api.PtCell
	for at := 0; at <= 22; at += 2 {
		row = append(row, cell(at, at))
	}
	for i := range 30 {
		p.Units = append(p.Units, api.PtUnit{Name: name("u", i), Pairs: 24, Rows: slices.Repeat([][]api.PtCell{row}, 40)})
	}
	for i := range 100 {
		p.Parts = append(p.Parts, turned(motif(name("m", i), 10, 14, 100, 50, 100, 50, 100, 50, 100, 50)))
	}
	text, e := pattern.Print(p)
	if e != api.OK || text != written(p) || strings.Count(text, "\n") != 1+40+30*41+100 {
		t.Fatalf("Print: %d bytes, %d", len(text), e)
	}
	if q, n, e := pattern.Parse(text); !equal(q, p) || n != 0 || e != api.OK {
		t.Errorf("Parse: %d, %d", n, e)
	}
}
