package pattern_test

import (
	"slices"
	"strings"
	"testing"

	"torchon/api"
	"torchon/pattern"
)

// isParsed checks which line and which error Parse returns, and that an error comes without a pattern.
func isParsed(t *testing.T, text string, line int, error api.Errno) {
	t.Helper()
	p, n, e := pattern.Parse(text)
	if n != line || e != error {
		t.Errorf("Parse(%.300q): %d, %d, want %d, %d", text, n, e, line, error)
	}
	if e != api.OK && !equal(p, api.Pattern{}) {
		t.Errorf("Parse(%.300q): %v with the error %d", text, p, e)
	}
}

// P8.4: the errors of words.Lines.
func TestParseLines(t *testing.T) {
	isParsed(t, "pattern p 2", 0, api.ErrForm)
	isParsed(t, "x", 0, api.ErrForm)
	isParsed(t, textE+"sew 2", 0, api.ErrForm)
	isParsed(t, "\nx", 0, api.ErrForm)
	isParsed(t, "pattern p 2\n"+strings.Repeat("\n", 4999), 2, api.ErrForm)
	isParsed(t, "pattern p 2\n"+strings.Repeat("\n", 5000), 0, api.ErrLong)
	isParsed(t, "pattern p 2\n"+strings.Repeat("sew 0\n", 4999), 0, api.ErrLong) // 4999 parts, as Check says
	isParsed(t, "pattern p 2\n"+strings.Repeat("sew 0\n", 4999)+"\n", 0, api.ErrLong)
	isParsed(t, strings.Repeat("x", 1<<20), 0, api.ErrForm)
	isParsed(t, strings.Repeat("x", 1<<20)+"\n", 0, api.ErrLong)
	isParsed(t, strings.Repeat("x", 1<<20-1)+"\n", 1, api.ErrLong)
}

// P8.4: the first line is missing.
func TestParseNothing(t *testing.T) {
	isParsed(t, "", 1, api.ErrForm)
	isParsed(t, "\n", 1, api.ErrForm)
	isParsed(t, "\n"+textE, 1, api.ErrForm)
	isParsed(t, textE[strings.Index(textE, "stitch"):], 1, api.ErrForm)
}

// in returns a text whose last line is this one; it stands at its place, if there is one for it.
func in(line string) string {
	switch first, _, _ := strings.Cut(line, " "); first {
	case "row":
		return "pattern p 6\nunit u 6\n" + line + "\n"
	case "pattern":
		return line + "\n"
	}
	return "pattern p 6\nstitch half CT\n" + line + "\n"
}

// P8.4: the error of words.Split counts, also for a line that is not at its place.
func TestParseSplit(t *testing.T) {
	fields := func(n int) string { return strings.Repeat(" x", n)[1:] }
	for line, e := range map[string]api.Errno{
		"sew 0 ":                             api.ErrForm,
		" sew 0":                             api.ErrForm,
		"sew  0":                             api.ErrForm,
		"sew\t0":                             api.ErrForm,
		"sew 0\r":                            api.ErrForm,
		"sew \"0":                            api.ErrForm,
		"s\"ew 0":                            api.ErrForm,
		"sew é":                              api.ErrForm,
		"row a@0 ":                           api.ErrForm,
		"unit " + strings.Repeat("u", 201):   api.ErrForm,
		"pattern p 6 ":                       api.ErrForm,
		fields(64):                           api.ErrForm,
		fields(65):                           api.ErrLong,
		"sew " + fields(64):                  api.ErrLong,
		"row " + fields(64):                  api.ErrLong,
		"x " + strings.Repeat("\"", 4094):    api.ErrForm,
		"x " + strings.Repeat("\"", 4095):    api.ErrLong,
		"pattern " + strings.Repeat("p ", 9): api.ErrForm,
		" " + strings.Repeat(" x", 65):       api.ErrForm,
	} {
		text := in(line)
		isParsed(t, text, strings.Count(text, "\n"), e)
		isParsed(t, textE+line+"\n", 10, e)
		isParsed(t, line+"\n"+textE, 1, e)
	}
}

// P8.4: lines that have not the form of their kind.
func TestParseForms(t *testing.T) {
	for _, line := range []string{
		"", "x", "-", "Pattern p 6", "SEW 0", "sews 0", "\"sew\" 0", "plait 0 2 3", "#", "part", "end",
		"pattern", "pattern p", "pattern 6", "pattern p 6 6", "pattern p x", "pattern p 06", "pattern p +6", "pattern p -0", "pattern p 6.0", "pattern p 6 flip", "pattern \"p\" 6", "pattern p \"6\"", "pattern p -", "pattern p 1000000001", "pattern p -1000000001", "pattern p 99999999999999999999",
		"stitch", "stitch a", "stitch a C T", "stitch a \"\"", "stitch a \"CT\"", "stitch \"a\" CT", "stitch a CT -",
		"unit", "unit u", "unit u x", "unit u 2 2", "unit u 02", "unit u -", "unit \"u\" 2", "unit u \"2\"", "unit u 1000000001", "unit u 2 flip",
		"ground", "ground u", "ground u 0", "ground u 0 2", "ground u 0 2 1 1", "ground u 0 2 1 flop", "ground u 0 2 1 flip flip", "ground u 0 2 1 \"flip\"", "ground u 0 2 1 -", "ground u 0 2 flip", "ground u x 2 1", "ground u 0 x 1", "ground u 0 2 x", "ground u 00 2 1", "ground u 0 02 1", "ground u 0 2 01", "ground \"u\" 0 2 1", "ground u \"0\" 2 1", "ground u -1000000001 2 1", "ground u 0 1000000001 1", "ground u 0 2 1000000001", "ground flip u 0 2 1", "ground u 0 2 1 Flip",
		"motif", "motif m", "motif m 0", "motif m 0 2", "motif m 0 2 flip", "motif m 0 2 - flop", "motif m 0 2 - flip flip", "motif m 0 2 1 2", "motif m 0 2 \"\"", "motif m 0 2 \"1\"", "motif \"m\" 0 2 -", "motif m x 2 -", "motif m 0 x -", "motif m 00 2 -", "motif m 0 02 -", "motif m 0 1000000001 -", "motif m -1000000001 2 -", "motif m 0 2 - \"flip\"", "motif m 0 2 - 0",
		"sew", "sew x", "sew 0 0", "sew 0 2", "sew 0 flip", "sew 00", "sew -0", "sew +0", "sew \"0\"", "sew -", "sew 1000000001", "sew -1000000001", "sew 18446744073709551616",
	} {
		text := in(line)
		isParsed(t, text, strings.Count(text, "\n"), api.ErrForm)
	}
}

// P8.4: sizes are the shortest string of a list, and - for none.
func TestParseSizes(t *testing.T) {
	for _, sizes := range []string{
		",", "1,", ",1", "1,,2", "1-2", "2x1", "01", "1-1", "1x1", "0x1", "3-1", "-1", "1-", "x1", "1x", "--", "+1", "1;2", "1,2,3", "0,1,2,3", "1,1,1", "1-3,4", "2x1,1", "4,2x4", "1x2,3", "1.5", "x", "flip",
		"10000", "0,10000", "10000x1", "501x0", "500x0,0", "0-500", "99999999999999999999",
	} {
		isParsed(t, in("motif m 0 2 "+sizes), 3, api.ErrForm)
		isParsed(t, in("motif m 0 2 "+sizes+" flip"), 3, api.ErrForm)
	}
	for sizes, e := range map[string]api.Errno{
		"-": api.OK, "0": api.OK, "100": api.OK, "1,2": api.OK, "1-3": api.OK, "3x1": api.OK, "1,1": api.OK, "8x100": api.OK, "93-100": api.OK, "2x10": api.OK, "1-3,2x10,4x7": api.ErrLong,
		"101": api.ErrRange, "9999": api.ErrRange, "99-101": api.ErrRange, "9x1": api.ErrLong, "500x0": api.ErrLong, "0-499": api.ErrLong, "1-9": api.ErrLong,
	} {
		isParsed(t, in("motif m 0 2 "+sizes), 0, e)
		isParsed(t, in("motif m 0 2 "+sizes+" flip"), 0, e)
	}
}

// P8.4: cells are divided at their first @.
func TestParseCells(t *testing.T) {
	text := func(row string) string { return "pattern p 2\nstitch a C\nstitch b T\nunit u 6\n" + row + "\n" }
	for row, want := range map[string][]api.PtCell{
		"row": nil, "row a@0": {cell(0, 0)}, "row b@4": {cell(4, 1)}, "row a@0 b@2 b@4": {cell(0, 0), cell(2, 1), cell(4, 1)}, "row b@1 a@3": {cell(1, 1), cell(3, 0)},
	} {
		p, n, e := pattern.Parse(text(row))
		if n != 0 || e != api.OK || !equalUnits(p.Units[0], api.PtUnit{Name: "u", Pairs: 6, Rows: [][]api.PtCell{want}}) {
			t.Errorf("Parse with %q: %v, %d, %d", row, p, n, e)
		}
	}
	for _, row := range []string{
		"row a", "row @", "row @0", "row a@", "row 0", "row 0@a", "row c@0", "row A@0", "row u@0", "row a@x", "row a@00", "row a@-0", "row a@+0", "row a@@0", "row a@0@0", "row a@0@", "row \"a@0\"", "row a@0 \"b@2\"", "row a@0 flip", "row -", "row a@0,b@2", "row a@0 b", "row a@1000000001", "row a@-1000000001", "row a@99999999999999999999",
	} {
		isParsed(t, text(row), 5, api.ErrForm)
	}
	for row, e := range map[string]api.Errno{
		"row a@-1": api.ErrRange, "row a@5": api.ErrRange, "row a@1000000000": api.ErrRange, "row a@-1000000000": api.ErrRange, "row a@0 b@1": api.ErrTwice, "row a@2 b@0": api.ErrTwice, "row" + strings.Repeat(" a@0", 63): api.ErrTwice,
	} {
		isParsed(t, text(row), 0, e)
	}
	// A stitch whose name has an @ is never meant, as the name ends before it; Check refuses the name.
	isParsed(t, "pattern p 2\nstitch a@0 C\nunit u 2\nrow a@0@0\n", 4, api.ErrForm)
	isParsed(t, "pattern p 2\nstitch a@0 C\nunit u 2\nrow a@0\n", 4, api.ErrForm)
	isParsed(t, "pattern p 2\nstitch a C\nstitch a@0 C\nunit u 2\nrow a@0\n", 0, api.ErrForm)
	// A stitch must stand before its cell, and is looked for by its own name, not by that of a unit.
	isParsed(t, "pattern p 2\nunit u 2\nrow a@0\nstitch a C\n", 3, api.ErrForm)
	// No cell has an index of its own, but the first stitch with its name: the second one is told by Check.
	isParsed(t, "pattern p 2\nstitch a C\nstitch a T\nunit u 2\nrow a@0\n", 0, api.ErrTwice)
}

// P8.4: names and words are any bare fields, and numbers are from -10^9 to 10^9; what they must be otherwise, Check says.
func TestParseThenCheck(t *testing.T) {
	long := strings.Repeat("n", 200)
	for text, e := range map[string]api.Errno{
		"pattern " + long + " 2\n":                                 api.ErrForm,
		"pattern - 2\n":                                            api.ErrForm,
		"pattern a@b -1000000000\n":                                api.ErrForm,
		"pattern p 1000000000\n":                                   api.ErrRange,
		"pattern p -1000000000\n":                                  api.ErrRange,
		"pattern p 1\n":                                            api.ErrRange,
		"pattern p 25\n":                                           api.ErrRange,
		"pattern pattern 2\n":                                      api.OK,
		"pattern p 2\nstitch - C\n":                                api.ErrForm,
		"pattern p 2\nstitch stitch -\n":                           api.OK,
		"pattern p 2\nstitch " + long + " C\n":                     api.ErrForm,
		"pattern p 2\nstitch a --\n":                               api.ErrForm,
		"pattern p 2\nstitch a C-\n":                               api.ErrForm,
		"pattern p 2\nstitch a cloth\n":                            api.ErrForm,
		"pattern p 2\nstitch a " + strings.Repeat("C", 16) + "\n":  api.OK,
		"pattern p 2\nstitch a " + strings.Repeat("C", 17) + "\n":  api.ErrLong,
		"pattern p 2\nstitch a " + strings.Repeat("C", 200) + "\n": api.ErrLong,
		"pattern p 2\nunit - 2\n":                                  api.ErrForm,
		"pattern p 2\nunit u 1000000000\n":                         api.ErrRange,
		"pattern p 2\nunit u 0\n":                                  api.ErrRange,
		"pattern p 2\nunit unit 2\nrow\nunit row 2\n":              api.OK,
		"pattern p 2\nunit u 2\nrow\nunit u 2\n":                   api.ErrTwice,
		"pattern p 2\nunit u 2\n" + strings.Repeat("row\n", 40):    api.OK,
		"pattern p 2\nunit u 2\n" + strings.Repeat("row\n", 41):    api.ErrLong,
		"pattern p 2\nunit u 2\nground u 0 2 1000000000\n":         api.ErrRange,
		"pattern p 2\nunit u 2\nground u 0 1000000000 1\n":         api.ErrRange,
		"pattern p 2\nunit u 2\nground u -1000000000 2 1\n":        api.ErrRange,
		"pattern p 2\nunit u 2\nground v 0 2 1\n":                  api.ErrNone,
		"pattern p 2\nunit u 2\nground @ 0 2 1\n":                  api.ErrNone,
		"pattern p 3\nunit u 2\nground u 0 3 1\n":                  pattern.ErrUnit,
		"pattern p 2\nunit flip 2\nground flip 0 2 1 flip\n":       api.OK,
		"pattern p 2\nmotif - 0 2 -\n":                             api.ErrForm,
		"pattern p 2\nmotif flip 0 2 - flip\n":                     api.OK,
		"pattern p 2\nmotif m -1 2 -\n":                            api.ErrRange,
		"pattern p 2\nsew -1\n":                                    api.ErrRange,
		"pattern p 2\nsew 1\n":                                     api.ErrRange,
		"pattern p 2\nsew 1000000000\n":                            api.ErrRange,
		"pattern p 2\nsew 0\n":                                     api.OK,
	} {
		isParsed(t, text, 0, e)
	}
}

// P8.4: which lines are at their places behind which texts, by their first fields.
func TestParsePlaces(t *testing.T) {
	lines := map[string]string{"pattern": "pattern q 2", "stitch": "stitch b T", "unit": "unit v 2", "row": "row", "ground": "ground u 0 2 1", "motif": "motif m 0 2 -", "sew": "sew 0"}
	parts := "ground motif sew"
	for text, may := range map[string]string{
		"":                                              "pattern",
		"pattern p 2\n":                                 "stitch unit " + parts,
		"pattern p 2\nstitch a C\n":                     "stitch unit " + parts,
		"pattern p 2\nunit u 2\n":                       "unit row " + parts,
		"pattern p 2\nstitch a C\nunit u 2\n":           "unit row " + parts,
		"pattern p 2\nunit u 2\nrow\n":                  "unit row " + parts,
		"pattern p 2\nunit u 2\nrow\nrow\n":             "unit row " + parts,
		"pattern p 2\nunit u 2\nground u 0 2 1\n":       parts,
		"pattern p 2\nmotif m 0 2 -\n":                  parts,
		"pattern p 2\nsew 0\n":                          parts,
		"pattern p 2\nunit u 2\nsew 0\nmotif m 0 2 -\n": parts,
	} {
		for first, line := range lines {
			whole := text + line + "\n"
			switch {
			case !slices.Contains(strings.Fields(may), first):
				isParsed(t, whole, strings.Count(whole, "\n"), api.ErrForm)
			case first == "ground" && !strings.Contains(text, "unit u"):
				isParsed(t, whole, 0, api.ErrNone)
			default:
				isParsed(t, whole, 0, api.OK)
			}
		}
	}
}

// P8.4: the first line with an error counts, before all errors of Check.
func TestParseFirstError(t *testing.T) {
	isParsed(t, "pattern 1 2\nsew\nrow\n", 2, api.ErrForm)
	isParsed(t, "pattern 1 99\nstitch a X\nsew 0 \nsew\n", 3, api.ErrForm)
	isParsed(t, "pattern p 2\nsew 0 0\nsew"+strings.Repeat(" x", 64)+"\n", 2, api.ErrForm)
	isParsed(t, "pattern p 2\nsew"+strings.Repeat(" x", 64)+"\nsew 0 0\n", 2, api.ErrLong)
	isParsed(t, "pattern p 2\n"+strings.Repeat("sew 0\n", 101)+"row\n", 103, api.ErrForm)
	isParsed(t, "pattern p 2\n"+strings.Repeat("sew 0\n", 101), 0, api.ErrLong)
	isParsed(t, "pattern p 2\n"+strings.Repeat("sew 0\n", 100), 0, api.OK)
}
