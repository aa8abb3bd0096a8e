package pattern_test

import (
	"math/rand"
	"regexp"
	"slices"
	"strconv"
	"strings"
	"testing"

	"torchon/api"
	"torchon/pattern"
	"torchon/words"
)

// The forms of lines: B is a bare field, N a number, S sizes; the fields of rows are divided afterwards.
var lineForms = func() map[string]*regexp.Regexp {
	part := strings.NewReplacer("B", `([!#-~]{1,200})`, "N", `(-?[1-9][0-9]{0,9}|0)`, "S", `([-,x0-9]{1,200})`)
	forms := map[string]*regexp.Regexp{}
	for _, form := range []string{"pattern B N", "stitch B B", "unit B N", "row( [!#-~]{1,200})*", "ground B N N N( flip)?", "motif B N N S( flip)?", "sew N"} {
		first, _, _ := strings.Cut(strings.TrimSuffix(form, "( [!#-~]{1,200})*"), " ")
		forms[first] = regexp.MustCompile(`\A` + part.Replace(form) + `\z`)
	}
	return forms
}()

// order is a letter for each line of a text.
var order = regexp.MustCompile(`\Ap(s*(ur*)*[gmw]*)\z`)

var letters = map[string]string{"pattern": "p", "stitch": "s", "unit": "u", "row": "r", "ground": "g", "motif": "m", "sew": "w"}

// readText returns what Parse must return, found by the sentences of the chapter.
func readText(text string) (api.Pattern, int, api.Errno) {
	var p api.Pattern
	lines, e := words.Lines(text)
	if e != api.OK {
		return p, 0, e
	}
	kinds := ""
	for i, line := range lines {
		if _, e := words.Split(line); e != api.OK {
			return api.Pattern{}, i + 1, e
		}
		first, _, _ := strings.Cut(line, " ")
		kinds += letters[first]
		form := lineForms[first]
		if form == nil || !order.MatchString(kinds) || !add(&p, first, form.FindStringSubmatch(line), line) {
			return api.Pattern{}, i + 1, api.ErrForm
		}
	}
	if kinds == "" {
		return p, 1, api.ErrForm
	}
	if _, e := checked(p); e != api.OK {
		return api.Pattern{}, 0, e
	}
	return p, 0, api.OK
}

// add adds what a line says to a pattern, and returns whether it has its form.
func add(p *api.Pattern, first string, found []string, line string) bool {
	if found == nil {
		return false
	}
	ok := true
	number := func(i int) int {
		n, _ := strconv.Atoi(found[i])
		ok = ok && -1000000000 <= n && n <= 1000000000
		return n
	}
	switch first {
	case "pattern":
		p.Name, p.Pairs = found[1], number(2)
	case "stitch":
		word := found[2]
		if word == "-" {
			word = ""
		}
		p.Stitches = append(p.Stitches, api.PtStitch{Name: found[1], Word: word})
	case "unit":
		p.Units = append(p.Units, api.PtUnit{Name: found[1], Pairs: number(2)})
	case "row":
		return addRow(p, strings.Fields(line)[1:])
	case "ground":
		x := ground(found[1], number(2), number(3), number(4))
		x.Flip = found[5] != ""
		p.Parts = append(p.Parts, x)
	case "motif":
		sizes, fits := readSizes(found[4])
		ok = ok && fits
		x := motif(found[1], number(2), number(3), sizes...)
		x.Flip = found[5] != ""
		p.Parts = append(p.Parts, x)
	case "sew":
		p.Parts = append(p.Parts, sewing(number(1)))
	}
	return ok
}

var cellForm = regexp.MustCompile(`\A([^@]*)@(-?[1-9][0-9]{0,9}|0)\z`)

func addRow(p *api.Pattern, cells []string) bool {
	row := []api.PtCell{}
	for _, text := range cells {
		found := cellForm.FindStringSubmatch(text)
		if found == nil {
			return false
		}
		at, _ := strconv.Atoi(found[2])
		i := slices.IndexFunc(p.Stitches, func(s api.PtStitch) bool { return s.Name == found[1] })
		if i < 0 || at < -1000000000 || at > 1000000000 {
			return false
		}
		row = append(row, cell(at, i))
	}
	u := &p.Units[len(p.Units)-1]
	u.Rows = append(u.Rows, row)
	return true
}

// readSizes returns sizes, and whether their text is that of chapter 1.
func readSizes(text string) ([]int, bool) {
	if text == "-" {
		return nil, true
	}
	l, e := words.ParseList(text)
	if e != api.OK {
		return nil, false
	}
	best, _ := words.List(l)
	return l, best == text
}

// wildFields are fields that are put in.
func wildFields() []string {
	return []string{
		"pattern", "stitch", "unit", "row", "ground", "motif", "sew", "flip", "-", "--", "0", "1", "2", "3", "5", "7", "-1", "24", "25", "199", "200", "-0", "00", "+1", "1000000000", "-1000000000", "1000000001", "-1000000001", "99999999999999999999", "a", "half", "half@0", "a@0", "@0", "a@", "a@0@0", "a@b@1", "CT", "CTC", "X", "1,2", "1-2", "1-3", "0,0", "2x0", "2x10", "9x1", "101", "10000", "501x0", ",", `"a"`, `""`, `"flip"`, `"`, "é", "",
		strings.Repeat("x", 200), strings.Repeat("x", 201), strings.Repeat("x ", 70) + "x", strings.Repeat("C", 17),
	}
}

// vandalize changes a line, or more, of a text.
func vandalize(r *rand.Rand, lines []string) []string {
	i, k := r.Intn(len(lines)), r.Intn(len(lines))
	if r.Intn(2) == 0 {
		i = max(i, len(lines)-1-r.Intn(9)) // where the parts are
	}
	fields := strings.Split(lines[i], " ")
	j := r.Intn(len(fields))
	wild := wildFields()[r.Intn(len(wildFields()))]
	switch r.Intn(12) {
	case 0, 1, 2:
		fields[j] = wild
	case 3:
		fields = slices.Insert(fields, j, wild)
	case 4:
		fields = append(fields, wild)
	case 5:
		fields = slices.Delete(fields, j, j+1)
	case 6:
		others := strings.Split(lines[k], " ")
		fields[j] = others[r.Intn(len(others))]
	case 7:
		return slices.Delete(lines, i, i+1)
	case 8:
		return slices.Insert(lines, k, lines[i])
	case 9:
		lines[i], lines[k] = lines[k], lines[i]
		return lines
	case 10:
		return slices.Insert(lines, i, slices.Repeat(lines[i:i+1], 1+r.Intn(60))...)
	case 11:
		bytes := []byte(lines[i] + "\n")
		bytes[r.Intn(len(bytes))] = []byte(" \n\"@-,x0123CTab\x7f\x00")[r.Intn(17)]
		lines[i] = strings.TrimSuffix(string(bytes), "\n")
		return lines
	}
	lines[i] = strings.Join(fields, " ")
	return lines
}

// P8.4 and P8.5: Parse of many texts, against the reader of this file; Print of what is read is the text.
func TestParseOfManyTexts(t *testing.T) {
	met := map[api.Errno]int{}
	same, others := 0, 0
	manyPatterns(8, 30000, func(r *rand.Rand, p api.Pattern) {
		lines := strings.Split(strings.TrimSuffix(written(p), "\n"), "\n")
		for range 1 + r.Intn(2) {
			if len(lines) > 0 {
				lines = vandalize(r, lines)
			}
		}
		text := strings.Join(lines, "\n") + "\n"
		if r.Intn(40) == 0 {
			text = text[:r.Intn(len(text))]
		}
		q, n, e := pattern.Parse(text)
		if want, line, error := readText(text); !equal(q, want) || n != line || e != error {
			t.Fatalf("Parse of %q: %v, %d, %d, want %v, %d, %d", text, q, n, e, want, line, error)
		}
		met[e]++
		if e != api.OK {
			return
		}
		if again, e := pattern.Print(q); again != text || e != api.OK {
			t.Fatalf("Print of Parse of %q: %q, %d", text, again, e)
		}
		if equal(p, q) {
			same++
		} else {
			others++
		}
	})
	for _, e := range []api.Errno{api.OK, api.ErrLong, api.ErrNone, api.ErrFull, api.ErrForm, api.ErrRange, api.ErrTwice, pattern.ErrUnit} {
		if met[e] < 10 {
			t.Errorf("the error %d was met %d times", e, met[e])
		}
	}
	if same < 100 || others < 100 {
		t.Errorf("%d texts are read as before, and %d otherwise", same, others)
	}
}
