package diagram_test

import (
	"fmt"
	"math/rand"
	"slices"
	"strings"
	"testing"

	"torchon/api"
	"torchon/diagram"
)

// judgeRead compares Read with the judge, and returns the number of the line and the error.
func judgeRead(t *testing.T, text string) (int, api.Errno) {
	t.Helper()
	s, line, e := readOf(text)
	checkRead(t, text, s, line, e)
	return line, e
}

// P14.4: the error of words.Lines comes first.
func TestErrorsOfLines(t *testing.T) {
	good := textOf(example())
	wide := strings.Repeat("x", 1<<20-len(good))
	for i, c := range []struct {
		text string
		line int
		e    api.Errno
	}{
		{good[:len(good)-1], 0, api.ErrForm},
		{good + "x", 0, api.ErrForm},
		{"x", 0, api.ErrForm},
		{"diagram 2 0", 0, api.ErrForm},
		{good + wide[1:] + "\n", 6, api.ErrForm},
		{good + wide, 0, api.ErrForm},
		{good + wide + "\n", 0, api.ErrLong},
		{good + wide + "x", 0, api.ErrLong},
		{good + strings.Repeat("\n", 4995), 6, api.ErrForm},
		{good + strings.Repeat("\n", 4996), 0, api.ErrLong},
		{good + strings.Repeat("\n", 4996) + "x", 0, api.ErrForm},
		{strings.Repeat("\n", 5000), 1, api.ErrForm},
		{strings.Repeat("\n", 5001), 0, api.ErrLong},
	} {
		if line, e := judgeRead(t, c.text); line != c.line || e != c.e {
			t.Errorf("%d: %d, %d, want %d, %d", i, line, e, c.line, c.e)
		}
	}
}

// P14.4: the first line.
func TestFirstLine(t *testing.T) {
	for _, line := range []string{
		"", " ", "diagram", "diagram 4", "diagram 4 2 2", "diagram 4 2 ", " diagram 4 2", "diagram  4 2", "diagram 4  2", "diagram\t4 2", "diagram 4,2", "diagram 4 2\r", "diagram 4 2\x00",
		"Diagram 4 2", "diagrams 4 2", "diagra 4 2", `"diagram" 4 2`, "letter 4 2", "letter A CT", "4 2", "(A) (B)",
		"diagram 04 2", "diagram 4 02", "diagram +4 2", "diagram 4 +2", "diagram -4 2", "diagram 4 -2", "diagram 4 -0", "diagram 0x4 2", "diagram 4. 2", "diagram 4 2.0", "diagram four 2", "diagram 4 ٢", "diagram 1_0 2", "diagram 1e1 2",
		"diagram 0 2", "diagram 1 2", "diagram 25 2", "diagram -2 2", "diagram 4 -1", "diagram 4 401", "diagram 1 401", "diagram 4 99999999999999999999", "diagram 99999999999999999999 2", "diagram 18446744073709551620 2", "diagram 4 18446744073709551618",
	} {
		text := textOfLines(line, "letter A CT", "letter B CTC", "(A) (B)", "| (A) |")
		if n, e := judgeRead(t, text); n != 1 || e != api.ErrForm {
			t.Errorf("%q: %d, %d", line, n, e)
		}
		if n, e := judgeRead(t, line+"\n"); n != 1 || e != api.ErrForm {
			t.Errorf("%q alone: %d, %d", line, n, e)
		}
	}
	checkRead(t, "", api.Sheet{}, 1, api.ErrForm)
	checkRead(t, "\n", api.Sheet{}, 1, api.ErrForm)
	// All numbers that there may be, and some more: with one row too many, one is missing.
	for pairs := range 30 {
		for _, rows := range []int{0, 1, 2, 9, 10, 19, 99, 100, 199, 399, 400, 401, 409, 410, 500, 999, 1000, 4000} {
			n, e := judgeRead(t, fmt.Sprintf("diagram %d %d\n", pairs, rows))
			want := 1
			if 2 <= pairs && pairs <= 24 && rows <= 400 {
				want = 2
			}
			if rows == 0 && want == 2 {
				want = 0
			}
			if n != want || (e == api.OK) != (want == 0) {
				t.Errorf("%d, %d: %d, %d", pairs, rows, n, e)
			}
		}
	}
}

// P14.4: lines with letters.
func TestLinesWithLetters(t *testing.T) {
	for _, line := range []string{
		"letter", "letter ", "letter  ", "letter   ", "letterA CT", "letters A CT", "letter A", "letter A ", "letter A  CT", "letter  A CT", "letter A CT ", "letter A CT CT", "letter\tA CT", "letter A\tCT", "letter A CT\r",
		"letter B CT", "letter a CT", "letter AA CT", "letter @ CT", "letter  CT", "letter 1 CT", "letter [ CT", "letter z CT",
		"letter A x", "letter A CTx", "letter A CT-", "letter A --", "letter A Sew", "letter A sewing", "letter A se", "letter A s", "letter A 0", "letter A é", `letter A "CT"`,
		"letter A " + strings.Repeat("C", 17), "letter A " + strings.Repeat("x", 17), "letter A " + strings.Repeat("C", 5000),
	} {
		text := textOfLines("diagram 4 2", line, "letter B CTC", "(A) (B)", "| (A) |")
		if n, e := judgeRead(t, text); n != 2 || e != api.ErrForm {
			t.Errorf("%q: %d, %d", line, n, e)
		}
		if n, e := judgeRead(t, "diagram 2 0\n"+line+"\n"); n != 2 || e != api.ErrForm {
			t.Errorf("%q alone: %d, %d", line, n, e)
		}
	}
	for _, line := range []string{" letter A CT", "Letter A CT", "lette A CT", "LETTER A CT", "CT", "A CT", ""} {
		// These do not begin with letter, so they are no drawings.
		if n, e := judgeRead(t, textOfLines("diagram 4 2", line, "letter B CTC", "(A) (B)", "| (A) |")); n != 2 || e != api.ErrForm {
			t.Errorf("%q: %d, %d", line, n, e)
		}
	}
	for _, look := range []string{"-", "sew", "C", "c", "P", "CLRTPclrt", strings.Repeat("C", 16)} {
		if n, e := judgeRead(t, textOfLines("diagram 2 1", "letter A "+look, "(A)")); n != 0 || e != api.OK {
			t.Errorf("%s: %d, %d", look, n, e)
		}
	}
}

// P14.4: there are 52 letters, and each line has the next one.
func TestOrderOfLetters(t *testing.T) {
	good := textOf(different(52))
	if n, e := judgeRead(t, good); n != 0 || e != api.OK {
		t.Errorf("52 letters: %d, %d", n, e)
	}
	lines := strings.Split(good, "\n")
	for _, more := range []string{"letter { CCC", "letter A CCC", "letter z CCC", "letter [ CCC", "letter", "letter  CCC", "letters"} {
		text := strings.Join(slices.Insert(slices.Clone(lines), 53, more), "\n")
		if n, e := judgeRead(t, text); n != 54 || e != api.ErrForm {
			t.Errorf("with %q: %d, %d", more, n, e)
		}
	}
	for k := range 52 {
		for _, letter := range []byte("@AMZ[`amz{") {
			line := "letter " + string(rune(letter)) + " CCC"
			changed := slices.Clone(lines)
			changed[k+1] = line
			n, e := judgeRead(t, strings.Join(changed, "\n"))
			want := k + 2
			if letter == letters()[k] {
				want = 0
			}
			// The look is that of no other letter, so the text is that of a diagram.
			if n != want || (e == api.OK) != (want == 0) {
				t.Errorf("%q instead of the letter %d: %d, %d", line, k, n, e)
			}
		}
		left := slices.Delete(slices.Clone(lines), k+1, k+2)
		want := k + 2
		if k == 51 {
			want = 104 // the row with z
		}
		if n, e := judgeRead(t, strings.Join(left, "\n")); n != want || e != api.ErrForm {
			t.Errorf("without the letter %d: %d, %d", k, n, e)
		}
	}
}

// P14.4: drawings of rows.
func TestDrawings(t *testing.T) {
	for _, line := range []string{
		"", " ", "|", "| |", "| | ", "| | | ", "| | | | ", " | | | |", "| | | | |", "|| | | |", "| |  | |", "|   | | |", "| | | |\r", "| | |\t|", "| | | |x", "||||", "|||||||", "       ", "| | | (", "| | | )", "| | ) (", ") ( | |",
		"(A) (A)|", "(A)|(A)", "(A)((A)", "(A))(A)", "(A)A(A)", "(A) (A) ", "(A)  (A)", " (A) (A", "(A) (A", "(A (A)", "A) (A)", "(A) [A)", "(A) (A]", "(A) {A}", "(A) A()", "(A) ()A", "(A) ( )", "(A) (|)", "(A) (()", "(A) ())", "(A)(A) ", "(A)A) |", "(A(A) |", "((A) | ", "(A| | |", "|A) | |", "| (A) (", ") (A) |", ") (A) (",
		"(B) | |", "(a) | |", "(@) | |", "(1) | |", "(-) | |", "(\xff) | |", "(A) (B)", "(B) (A)", "(A) | ( ", "(A) | |A", "(A) |A|", "(A)|| |", "CT CT  ", "letter", "letter A CT", "letter B CT ", "diagram 4 2", "(A) | é",
	} {
		for _, c := range []struct {
			lines []string
			want  int
		}{
			{[]string{"diagram 4 2", "letter A CT", line, "(A) (A)"}, 3},
			{[]string{"diagram 4 2", "letter A CT", "(A) (A)", line}, 4},
			{[]string{"diagram 4 1", "letter A CT", "(A) (A)", line}, 4},
			{[]string{"diagram 4 400", "letter A CT", "(A) (A)", line}, 4},
			{[]string{"diagram 4 0", "letter A CT", line}, 3},
		} {
			if n, e := judgeRead(t, textOfLines(c.lines...)); n != c.want || e != api.ErrForm {
				t.Errorf("%q in %q: %d, %d, want %d", line, c.lines, n, e, c.want)
			}
		}
	}
}

// P14.4: a line with a letter after a drawing is no drawing.
func TestLetterAfterDrawing(t *testing.T) {
	for _, rows := range []string{"1", "2", "3"} {
		if n, e := judgeRead(t, textOfLines("diagram 4 "+rows, "letter A CT", "(A) | |", "letter B CTC", "(B) (A)")); n != 4 || e != api.ErrForm {
			t.Errorf("%s rows: %d, %d", rows, n, e)
		}
	}
}

// P14.4: as many drawings as the first line says.
func TestNumberOfRows(t *testing.T) {
	for drawn := range 5 {
		for said := range 5 {
			text := fmt.Sprintf("diagram 2 %d\nletter A CT\n", said) + strings.Repeat("(A)\n", drawn)
			want := min(drawn, said) + 3
			if drawn == said {
				want = 0
			}
			n, e := judgeRead(t, text)
			if n != want || (e == api.OK) != (drawn == said && drawn > 0) {
				t.Errorf("%d rows, and %d are said: %d, %d", drawn, said, n, e)
			}
		}
	}
	lines := strings.Split(textOf(tall(400)), "\n")
	for _, c := range []struct{ from, to, want int }{{405, 406, 406}, {6, 7, 406}} {
		left := slices.Delete(slices.Clone(lines), c.from, c.to)
		if n, e := judgeRead(t, strings.Join(left, "\n")); n != c.want || e != api.ErrForm {
			t.Errorf("without the line %d: %d, %d", c.from, n, e)
		}
	}
}

// P14.4: texts whose lines are right, but which are not those of the diagram of the sheet.
func TestOtherDiagrams(t *testing.T) {
	for _, lines := range [][]string{
		{"diagram 4 1", "| | | |"},                                                                 // a row without works
		{"diagram 4 2", "letter A CT", "(A) | |", "| | | |"},                                       // the same, at the end
		{"diagram 4 2", "letter A CT", "| | | |", "(A) | |"},                                       // the same, at the beginning
		{"diagram 4 3", "letter A CT", "(A) | |", "| | | |", "(A) | |"},                            // the same, between others
		{"diagram 4 1", "letter A CT", "letter B P", "(A) | |"},                                    // a letter that is not used
		{"diagram 4 1", "letter A CT", "letter B P", "(B) | |"},                                    // the same, before one that is used
		{"diagram 4 0", "letter A CT"},                                                             // no works
		{"diagram 4 1", "letter A CT", "letter B P", "(B) (A)"},                                    // the letters in another order
		{"diagram 4 1", "letter A CT", "letter B CT", "(A) (B)"},                                   // a look with two letters
		{"diagram 4 1", "letter A -", "letter B -", "(A) (B)"},                                     // the same
		{"diagram 4 1", "letter A sew", "letter B sew", "(A) (B)"},                                 // the same
		{"diagram 4 2", "letter A CT", "(A) | |", "| | (A)"},                                       // a work that may be done in the row before
		{"diagram 6 3", "letter A CT", "(A) (A) | |", "| (A) | | |", "| | | | (A)"},                // the same
		{"diagram 6 3", "letter A CT", "(A) | | | |", "| (A) | | |", "| | | (A) |"},                // the same
		{"diagram 6 4", "letter A CT", "(A) | | (A)", "(A) | | | |", "| (A) | | |", "| | | | (A)"}, // the same, by two rows
	} {
		if n, e := judgeRead(t, textOfLines(lines...)); n != 0 || e != api.ErrForm {
			t.Errorf("%q: %d, %d", lines, n, e)
		}
	}
}

// rowsOfDrawings returns a text of 24 pairs with rows of 12 works, and one with so many works.
func rowsOfDrawings(rows, last int) string {
	text := fmt.Sprintf("diagram 24 %d\nletter A CT\n", rows+1)
	text += strings.Repeat(strings.Repeat("(A) ", 12)[:47]+"\n", rows)
	return text + (strings.Repeat("(A) ", last) + strings.Repeat("| ", 24-2*last))[:47] + "\n"
}

// P14.4: 400 works, and one more, and as many as can be drawn; a line that is wrong comes first.
func TestTooManyWorks(t *testing.T) {
	if n, e := judgeRead(t, rowsOfDrawings(33, 4)); n != 0 || e != api.OK {
		t.Errorf("400 works: %d, %d", n, e)
	}
	for _, c := range [][2]int{{33, 5}, {33, 12}, {399, 1}, {399, 12}} {
		text := rowsOfDrawings(c[0], c[1])
		if n, e := judgeRead(t, text); n != 0 || e != api.ErrForm {
			t.Errorf("%v: %d, %d", c, n, e)
		}
		if n, e := judgeRead(t, text+"|\n"); n != c[0]+4 || e != api.ErrForm {
			t.Errorf("%v and a line more: %d, %d", c, n, e)
		}
	}
}

// P14.4: of several errors the one of the first line that is wrong.
func TestSeveralErrors(t *testing.T) {
	wrong := []string{"diagram 5 3", "letter A x", "letter C P", "| (Z) |", "x"}
	right := []string{"diagram 4 2", "letter A CT", "letter B CTC", "(A) (B)", "| (A) |"}
	for chosen := range 1 << len(right) {
		lines := slices.Clone(right)
		first := 0
		for k := len(lines) - 1; k >= 0; k-- {
			if chosen>>k&1 == 1 {
				lines[k], first = wrong[k], k+1
			}
		}
		if chosen&1 == 1 {
			// The first line is right by itself, but the drawings are none of 5 pairs.
			first = 4
			if chosen>>1&1 == 1 {
				first = 2
			} else if chosen>>2&1 == 1 {
				first = 3
			}
		}
		if n, e := judgeRead(t, textOfLines(lines...)); n != first || (e == api.OK) != (chosen == 0) {
			t.Errorf("%q: %d, %d, want %d", lines, n, e, first)
		}
	}
}

// P14.4: all texts of a few lines.
func TestAllTexts(t *testing.T) {
	lines := []string{"letter A CT", "letter A -", "letter B CT", "letter B sew", "letter", "| |", "(A)", "(B)", "|", "(A) |", "| (A)", "(B) |", ""}
	met := map[int]int{}
	right := 0
	var grow func(text string, left int)
	grow = func(text string, left int) {
		n, e := judgeRead(t, text)
		if e == api.OK {
			right++
		} else {
			met[n]++
		}
		for _, line := range lines {
			if left > 0 {
				grow(text+line+"\n", left-1)
			}
		}
	}
	for _, first := range []string{"diagram 2 0", "diagram 2 1", "diagram 2 2", "diagram 3 1", "diagram 3 2", "diagram 3"} {
		grow(first+"\n", 4)
	}
	for n := range 7 {
		if met[n] < 20 && n < 6 {
			t.Errorf("the line %d is wrong %d times", n, met[n])
		}
	}
	if right < 20 {
		t.Errorf("only %d texts are right", right)
	}
}

// damaged returns a text with some bytes or lines changed, which depends on r alone.
func damaged(r *rand.Rand, text string) string {
	lines := strings.Split(text, "\n")
	k, m, b := r.Intn(len(lines)), r.Intn(len(lines)), r.Intn(len(text))
	some := "|() \nABCab-CTPsew0123"[r.Intn(21):][:1]
	switch r.Intn(9) {
	case 0:
		return text[:b] + text[b+1:]
	case 1:
		return text[:b] + some + text[b:]
	case 2, 3:
		return text[:b] + some + text[b+1:]
	case 4:
		lines[k], lines[m] = lines[m], lines[k]
	case 5:
		lines[k] = lines[m]
	case 6:
		lines = slices.Delete(lines, k, k+1)
	case 7:
		lines = slices.Insert(lines, k, lines[m])
	case 8:
		lines[k] = strings.Replace(strings.Replace(lines[k], "(A)", "(B)", 1), "| |", "(A)", r.Intn(2))
	}
	return strings.Join(lines, "\n")
}

// P14.4: many damaged texts.
func TestDamagedTexts(t *testing.T) {
	r := rand.New(rand.NewSource(2))
	met := map[api.Errno]int{}
	right, whole := 0, 0
	for range 20000 {
		text := textOf(someSheet(r, 2+r.Intn(8), r.Intn(14), 1+r.Intn(5)))
		for range 1 + r.Intn(2) {
			if text != "" {
				text = damaged(r, text)
			}
		}
		n, e := judgeRead(t, text)
		met[e]++
		if e == api.OK {
			right++
			if again, f := diagram.Draw(first(diagram.Read(text))); again != text || f != api.OK {
				t.Fatalf("Draw of Read of %q: %q, %d", text, again, f)
			}
		} else if n == 0 && strings.HasSuffix(text, "\n") {
			whole++
		}
	}
	if right < 300 || whole < 300 || met[api.ErrForm] < 5000 {
		t.Errorf("%d texts are right, %d are not those of a diagram, and the errors are %v", right, whole, met)
	}
}

// first returns the first one of three results.
func first(s api.Sheet, _ int, _ api.Errno) api.Sheet { return s }
