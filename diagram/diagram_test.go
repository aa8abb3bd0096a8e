package diagram_test

import (
	"math"
	"slices"
	"strings"
	"testing"

	"torchon/api"
	"torchon/diagram"
)

func sheetOf(pairs int, works ...api.Work) api.Sheet {
	return api.Sheet{Pairs: pairs, Works: works}
}

// example is the sheet A of the chapter's examples.
func example() api.Sheet {
	return sheetOf(4, stitch(0, "CT"), stitch(2, "CTC"), stitch(1, "CT"))
}

// textOfLines returns the lines, each followed by a byte 10.
func textOfLines(lines ...string) string {
	return strings.Join(lines, "\n") + "\n"
}

func checkRows(t *testing.T, s api.Sheet, want [][]int) {
	t.Helper()
	if rows, e := diagram.Rows(s); e != api.OK || !slices.EqualFunc(rows, want, slices.Equal) {
		t.Fatalf("Rows of %v: %v, %d, want %v", s, rows, e, want)
	}
}

func checkSheet(t *testing.T, s, want api.Sheet) {
	t.Helper()
	if got, e := diagram.Sheet(s); e != api.OK || !equal(got, want) {
		t.Fatalf("Sheet of %v: %v, %d, want %v", s, got, e, want)
	}
}

func checkLetters(t *testing.T, s api.Sheet, want []string) {
	t.Helper()
	if looks, e := diagram.Letters(s); e != api.OK || !slices.Equal(looks, want) {
		t.Fatalf("Letters of %v: %v, %d, want %v", s, looks, e, want)
	}
}

func checkCut(t *testing.T, s api.Sheet, from, to int, want api.Sheet, wantErrno api.Errno) {
	t.Helper()
	if got, e := diagram.Cut(s, from, to); e != wantErrno || !equal(got, want) {
		t.Fatalf("Cut of %v from %d to %d: %v, %d, want %v, %d", s, from, to, got, e, want, wantErrno)
	}
}

func checkDraw(t *testing.T, s api.Sheet, want string) {
	t.Helper()
	if text, e := diagram.Draw(s); e != api.OK || text != want {
		t.Fatalf("Draw of %v: %q, %d, want %q", s, text, e, want)
	}
}

func checkRead(t *testing.T, text string, want api.Sheet, wantLine int, wantErrno api.Errno) {
	t.Helper()
	if s, line, e := diagram.Read(text); e != wantErrno || line != wantLine || !equal(s, want) {
		t.Fatalf("Read of %.300q: %v, %d, %d, want %v, %d, %d", text, s, line, e, want, wantLine, wantErrno)
	}
}

// The chapter's examples.
func TestExamples(t *testing.T) {
	a := example()
	checkRows(t, a, [][]int{{0, 1}, {2}})
	checkLetters(t, a, []string{"CT", "CTC"})
	checkDraw(t, a, textOfLines("diagram 4 2", "letter A CT", "letter B CTC", "(A) (B)", "| (A) |"))
	checkCut(t, a, 1, 1, sheetOf(4), api.OK)
	checkCut(t, a, 0, 2, a, api.OK)
	checkCut(t, a, 0, 3, api.Sheet{}, api.ErrRange)
	checkRead(t, textOfLines("diagram 4 2", "letter A CT", "(A) | |", "| | (A)"), api.Sheet{}, 0, api.ErrForm)
	checkRead(t, textOfLines("diagram 4 2", "letter A CT", "(A) | |"), api.Sheet{}, 4, api.ErrForm)
	checkDraw(t, sheetOf(3, sew(1), stitch(0, "")), textOfLines("diagram 3 2", "letter A sew", "letter B -", "| (A)", "(B) |"))
}

// P14.1 and P14.3: rows are levels and go from left to right, and letters are given in the order of the rows, whatever the order of the sheet.
func TestOrderOfRows(t *testing.T) {
	s := sheetOf(6, stitch(4, "P"), stitch(2, "CTC"), stitch(3, "CT"), sew(0), stitch(1, "CT"), stitch(0, ""))
	checkRows(t, s, [][]int{{3, 1, 0}, {4, 2}, {5}})
	checkSheet(t, s, sheetOf(6, sew(0), stitch(2, "CTC"), stitch(4, "P"), stitch(1, "CT"), stitch(3, "CT"), stitch(0, "")))
	checkLetters(t, s, []string{"sew", "CTC", "P", "CT", "-"})
	checkDraw(t, s, textOfLines("diagram 6 3", "letter A sew", "letter B CTC", "letter C P", "letter D CT", "letter E -",
		"(A) (B) (C)", "| (D) (D) |", "(E) | | | |"))
	checkCut(t, s, 1, 3, sheetOf(6, stitch(1, "CT"), stitch(3, "CT"), stitch(0, "")), api.OK)
	checkCut(t, s, 2, 3, sheetOf(6, stitch(0, "")), api.OK)
}

// P14.1: a look is the word as it is spelt, also if another one makes the same stitch.
func TestLooksAreWords(t *testing.T) {
	s := sheetOf(2, stitch(0, "CLRC"), stitch(0, "CTC"), stitch(0, "CRLC"), stitch(0, "CTC"), stitch(0, "c"), stitch(0, "C"), stitch(0, "Cc"), stitch(0, ""))
	checkLetters(t, s, []string{"CLRC", "CTC", "CRLC", "c", "C", "Cc", "-"})
}

// P14.1 to P14.4: a sheet without works.
func TestNoWorks(t *testing.T) {
	for pairs := 2; pairs <= 24; pairs++ {
		s := sheetOf(pairs)
		checkRows(t, s, nil)
		checkSheet(t, s, s)
		checkLetters(t, s, nil)
		checkCut(t, s, 0, 0, s, api.OK)
		checkCut(t, s, 0, 1, api.Sheet{}, api.ErrRange)
		checkDraw(t, s, textOf(s))
		checkRead(t, textOf(s), s, 0, api.OK)
	}
	checkDraw(t, sheetOf(24), "diagram 24 0\n")
}

// P14.2: the rows of which there is a sheet.
func TestErrorsOfCut(t *testing.T) {
	s := example()
	for _, from := range []int{math.MinInt, -1, 0, 1, 2, 3, math.MaxInt} {
		for _, to := range []int{math.MinInt, -1, 0, 1, 2, 3, math.MaxInt} {
			want, e := cutOf(s, from, to)
			checkCut(t, s, from, to, want, e)
		}
	}
}

// different returns a sheet with so many looks, one for each work.
func different(looks int) api.Sheet {
	s := sheetOf(2, sew(0), stitch(0, ""))
	for k := range looks - 2 {
		s.Works = append(s.Works, stitch(0, spelt(k)))
	}
	return s
}

// P14.1 and P14.3: as many looks as there are letters, and one more.
func TestMostLooks(t *testing.T) {
	s := different(api.MaxDiLetters)
	checkLetters(t, s, looksOf(s))
	checkDraw(t, s, textOf(s))
	checkRead(t, textOf(s), s, 0, api.OK)
	text, _ := diagram.Draw(s)
	for _, line := range []string{"diagram 2 52", "letter A sew", "letter B -", "letter Z " + spelt(23), "letter a " + spelt(24), "letter z " + spelt(49), "(A)", "(Z)", "(a)", "(z)"} {
		if !strings.Contains("\n"+text, "\n"+line+"\n") {
			t.Errorf("there is no line %s: %s", line, text)
		}
	}
	s = different(api.MaxDiLetters + 1)
	if looks, e := diagram.Letters(s); e != api.ErrFull || len(looks) > 0 {
		t.Errorf("Letters: %v, %d", looks, e)
	}
	if text, e := diagram.Draw(s); e != api.ErrFull || text != "" {
		t.Errorf("Draw: %q, %d", text, e)
	}
	// The other functions do without letters.
	checkRows(t, s, rowsOf(s))
	checkSheet(t, s, s)
	checkCut(t, s, 0, 53, s, api.OK)
	checkCut(t, s, 0, 54, api.Sheet{}, api.ErrRange)
}

// P14.1: looks are counted, not works: 400 works may have 52 looks, and in 400 works one look more is found at the end.
func TestLooksAreCountedOnce(t *testing.T) {
	s := different(api.MaxDiLetters)
	for k := range api.MaxWorks - len(s.Works) {
		s.Works = append(s.Works, s.Works[k])
	}
	checkLetters(t, s, looksOf(s))
	checkDraw(t, s, textOf(s))
	checkRead(t, textOf(s), s, 0, api.OK)
	s.Works[399] = stitch(0, spelt(200))
	if looks, e := diagram.Letters(s); e != api.ErrFull || len(looks) > 0 {
		t.Errorf("Letters: %v, %d", looks, e)
	}
	if text, e := diagram.Draw(s); e != api.ErrFull || text != "" {
		t.Errorf("Draw: %q, %d", text, e)
	}
}

// wide returns a sheet of 24 pairs with so many works, in which rows of 12 works and of 11 take turns.
func wide(works int) api.Sheet {
	s := sheetOf(24)
	for i := range works {
		at := 2 * (i % 23)
		if i%23 >= 12 {
			at -= 23
		}
		s.Works = append(s.Works, stitch(at, someWords[i%7]))
	}
	return s
}

// tall returns a sheet with so many works, one in each row.
func tall(works int) api.Sheet {
	s := sheetOf(3)
	for i := range works {
		s.Works = append(s.Works, stitch(i%2, someWords[i%5]))
	}
	return s
}

// P14.1 to P14.4: sheets with 400 works.
func TestMostWorks(t *testing.T) {
	for _, s := range []api.Sheet{wide(api.MaxWorks), tall(api.MaxWorks)} {
		rows := rowsOf(s)
		checkRows(t, s, rows)
		checkSheet(t, s, s)
		checkLetters(t, s, looksOf(s))
		checkDraw(t, s, textOf(s))
		checkRead(t, textOf(s), s, 0, api.OK)
		checkCut(t, s, 0, len(rows), s, api.OK)
		checkCut(t, s, len(rows)-1, len(rows), partOf(s, len(rows)-1, len(rows)), api.OK)
		checkCut(t, s, 0, len(rows)+1, api.Sheet{}, api.ErrRange)
	}
	if rows := rowsOf(tall(api.MaxWorks)); len(rows) != 400 {
		t.Errorf("there are %d rows", len(rows))
	}
	if rows := rowsOf(wide(api.MaxWorks)); len(rows) != 35 || len(rows[0]) != 12 || len(rows[1]) != 11 {
		t.Errorf("the rows are %v", rows)
	}
}
