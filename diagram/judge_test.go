package diagram_test

import (
	"math/rand"
	"regexp"
	"slices"
	"strconv"
	"strings"

	"torchon/api"
)

// This file judges by the sentences of the chapters, and calls nothing of the program.

func stitch(at int, word string) api.Work {
	return api.Work{Kind: api.WkStitch, At: at, Word: word}
}

func sew(at int) api.Work {
	return api.Work{Kind: api.WkSew, At: at}
}

// someWords are the words of the stitches of most sheets of the tests.
var someWords = [...]string{"CTC", "CT", "", "P", "LrcP", "T", "tlC"}

// someSheet returns a sheet with so many works and at most so many looks, which depends on r alone.
func someSheet(r *rand.Rand, pairs, works, looks int) api.Sheet {
	s := api.Sheet{Pairs: pairs}
	for range works {
		at := r.Intn(pairs - 1)
		if look := r.Intn(looks); look == 1 {
			s.Works = append(s.Works, sew(at))
		} else {
			s.Works = append(s.Works, stitch(at, someWords[look]))
		}
	}
	return s
}

// manySheets calls with all sheets of at most 4 works of two looks on at most 4 pairs, and with some of at most so many works.
func manySheets(works int, call func(s api.Sheet)) {
	var grow func(s api.Sheet)
	grow = func(s api.Sheet) {
		call(s)
		for at := range s.Pairs - 1 {
			for _, w := range []api.Work{stitch(at, "CT"), sew(at)} {
				if len(s.Works) < 4 {
					grow(api.Sheet{Pairs: s.Pairs, Works: append(slices.Clone(s.Works), w)})
				}
			}
		}
	}
	for pairs := 2; pairs <= 4; pairs++ {
		grow(api.Sheet{Pairs: pairs})
	}
	r := rand.New(rand.NewSource(1))
	for k := range 600 {
		call(someSheet(r, 2+r.Intn(23), r.Intn(works+1), 1+k%7))
	}
}

// spelt returns a word with at least one letter, another one for each k.
func spelt(k int) string {
	word := ""
	for k++; k > 0; k /= 5 {
		word += string("CLRTP"[k%5])
	}
	return word
}

func takes(w api.Work, place int) bool {
	return place == w.At || place == w.At+1
}

// touching returns whether two works have a place in common.
func touching(v, w api.Work) bool {
	return takes(v, w.At) || takes(v, w.At+1)
}

// equal returns whether two sheets are equal in all fields.
func equal(a, b api.Sheet) bool {
	return a.Pairs == b.Pairs && slices.Equal(a.Works, b.Works)
}

// levelsOf returns the level of each work: 0 if no work is before it, and otherwise one more than the greatest level of a work before it.
func levelsOf(s api.Sheet) []int {
	n := len(s.Works)
	before := make([][]bool, n)
	levels := make([]int, n)
	for b := range n {
		before[b] = make([]bool, n)
		for a := range b {
			if !touching(s.Works[a], s.Works[b]) {
				continue
			}
			before[b][a] = true
			for i := range a {
				before[b][i] = before[b][i] || before[a][i]
			}
		}
		for a := range b {
			if before[b][a] {
				levels[b] = max(levels[b], levels[a]+1)
			}
		}
	}
	return levels
}

// rowsOf returns the rows: of each level, the works that take the places from the left on.
func rowsOf(s api.Sheet) [][]int {
	levels := levelsOf(s)
	var rows [][]int
	for level := 0; slices.Contains(levels, level); level++ {
		var row []int
		for at := range s.Pairs {
			for i, w := range s.Works {
				if w.At == at && levels[i] == level {
					row = append(row, i)
				}
			}
		}
		rows = append(rows, row)
	}
	return rows
}

// partOf returns the sheet with the works of the rows from from to to - 1.
func partOf(s api.Sheet, from, to int) api.Sheet {
	part := api.Sheet{Pairs: s.Pairs}
	for n, row := range rowsOf(s) {
		for _, i := range row {
			if from <= n && n < to {
				part.Works = append(part.Works, s.Works[i])
			}
		}
	}
	return part
}

// cutOf is what Cut returns for a sheet without errors.
func cutOf(s api.Sheet, from, to int) (api.Sheet, api.Errno) {
	if !(0 <= from && from <= to && to <= len(rowsOf(s))) {
		return api.Sheet{}, api.ErrRange
	}
	return partOf(s, from, to), api.OK
}

// inRows returns the sheet of the diagram.
func inRows(s api.Sheet) api.Sheet {
	return partOf(s, 0, len(s.Works))
}

func lookOf(w api.Work) string {
	if w.Kind == api.WkSew {
		return "sew"
	}
	if w.Word == "" {
		return "-"
	}
	return w.Word
}

// looksOf returns the looks of the works, in the order in which they come first in the sheet of the diagram.
func looksOf(s api.Sheet) []string {
	var looks []string
	for _, w := range inRows(s).Works {
		if look := lookOf(w); !slices.Contains(looks, look) {
			looks = append(looks, look)
		}
	}
	return looks
}

// letters returns the letters: the bytes A to Z, and then a to z.
func letters() []byte {
	var l []byte
	for b := byte('A'); b <= 'Z'; b++ {
		l = append(l, b)
	}
	for b := byte('a'); b <= 'z'; b++ {
		l = append(l, b)
	}
	return l
}

// drawingOf returns the drawing of a row, byte by byte.
func drawingOf(s api.Sheet, row []int, looks []string) string {
	drawing := make([]byte, 2*s.Pairs-1)
	for k := range drawing {
		drawing[k] = ' '
		if k%2 == 0 {
			drawing[k] = '|'
		}
		for _, i := range row {
			switch w := s.Works[i]; k {
			case 2 * w.At:
				drawing[k] = '('
			case 2*w.At + 1:
				drawing[k] = letters()[slices.Index(looks, lookOf(w))]
			case 2*w.At + 2:
				drawing[k] = ')'
			}
		}
	}
	return string(drawing)
}

// textOf returns the text of the diagram of a sheet with at most 52 looks.
func textOf(s api.Sheet) string {
	rows, looks := rowsOf(s), looksOf(s)
	text := "diagram " + strconv.Itoa(s.Pairs) + " " + strconv.Itoa(len(rows)) + "\n"
	for k, look := range looks {
		text += "letter " + string(letters()[k]) + " " + look + "\n"
	}
	for _, row := range rows {
		text += drawingOf(s, row, looks) + "\n"
	}
	return text
}

var (
	firstForm  = regexp.MustCompile(`^diagram ([2-9]|1[0-9]|2[0-4]) ([0-9]|[1-9][0-9]|[123][0-9][0-9]|400)$`)
	letterForm = regexp.MustCompile(`^letter ([A-Za-z]) (-|sew|[CLRTPclrt]{1,16})$`)
	rowForm    = regexp.MustCompile(`^(\||\([A-Za-z]\))( (\||\([A-Za-z]\)))*$`)
)

// readOf is what Read returns.
func readOf(text string) (api.Sheet, int, api.Errno) {
	if len(text) > 1<<20 {
		return api.Sheet{}, 0, api.ErrLong
	}
	if text != "" && text[len(text)-1] != 10 {
		return api.Sheet{}, 0, api.ErrForm
	}
	if strings.Count(text, "\n") > 5000 {
		return api.Sheet{}, 0, api.ErrLong
	}
	lines := strings.Split(text, "\n")
	lines = lines[:len(lines)-1]
	if len(lines) == 0 || !firstForm.MatchString(lines[0]) {
		return api.Sheet{}, 1, api.ErrForm
	}
	numbers := firstForm.FindStringSubmatch(lines[0])
	s := api.Sheet{}
	s.Pairs, _ = strconv.Atoi(numbers[1])
	many, _ := strconv.Atoi(numbers[2])
	var looks []string
	for _, line := range lines[1:] {
		if !strings.HasPrefix(line, "letter") {
			break
		}
		parts := letterForm.FindStringSubmatch(line)
		if parts == nil || len(looks) == 52 || parts[1] != string(letters()[len(looks)]) {
			return api.Sheet{}, len(looks) + 2, api.ErrForm
		}
		looks = append(looks, parts[2])
	}
	for n := 1 + len(looks); n < len(lines) || n < 1+len(looks)+many; n++ {
		if n >= len(lines) || n >= 1+len(looks)+many || !isRow(lines[n], s.Pairs, len(looks)) {
			return api.Sheet{}, n + 1, api.ErrForm
		}
		for p := range s.Pairs {
			if lines[n][2*p] != '(' {
				continue
			}
			switch look := looks[slices.Index(letters(), lines[n][2*p+1])]; look {
			case "sew":
				s.Works = append(s.Works, sew(p))
			case "-":
				s.Works = append(s.Works, stitch(p, ""))
			default:
				s.Works = append(s.Works, stitch(p, look))
			}
		}
	}
	if len(s.Works) > 400 || textOf(s) != text {
		return api.Sheet{}, 0, api.ErrForm
	}
	return s, 0, api.OK
}

// isRow returns whether a line is the drawing of a row, with the first ones of the letters.
func isRow(line string, pairs, said int) bool {
	for k, b := range letters() {
		if k >= said && strings.Contains(line, string(b)) {
			return false
		}
	}
	return len(line) == 2*pairs-1 && rowForm.MatchString(line)
}

// exchanged returns a sheet after some exchanges of works that do not touch, which depend on r alone.
func exchanged(r *rand.Rand, s api.Sheet) api.Sheet {
	s.Works = slices.Clone(s.Works)
	for range 20 * len(s.Works) {
		p := r.Intn(len(s.Works))
		if p > 0 && !touching(s.Works[p-1], s.Works[p]) {
			s.Works[p-1], s.Works[p] = s.Works[p], s.Works[p-1]
		}
	}
	return s
}
