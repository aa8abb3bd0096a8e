package assemble_test

import (
	"slices"
	"strings"
	"testing"

	"torchon/api"
	"torchon/assemble"
	"torchon/motifs"
	"torchon/pattern"
	"torchon/sheet"
)

// The judge says what the functions must return, found by the sentences of the chapter.

func stitch(at int, word string) api.Work {
	return api.Work{Kind: api.WkStitch, At: at, Word: word}
}

func sew(at int) api.Work { return api.Work{Kind: api.WkSew, At: at} }

func equal(a, b api.Sheet) bool {
	return a.Pairs == b.Pairs && slices.Equal(a.Works, b.Works)
}

// isSheet holds a result without an error against what is wanted.
func isSheet(t *testing.T, what string, got api.Sheet, e api.Errno, want api.Sheet) {
	t.Helper()
	if e != api.OK || !equal(got, want) {
		t.Errorf("%s: %v, %d, want %v", what, got, e, want)
	}
}

// isError holds a result against the error alone.
func isError(t *testing.T, what string, got api.Sheet, e, want api.Errno) {
	t.Helper()
	if e != want || !equal(got, api.Sheet{}) {
		t.Errorf("%s: %v, %d, want the error %d alone", what, got, e, want)
	}
}

// is holds a result against what is wanted, with an error or without one.
func is(t *testing.T, what string, got api.Sheet, e api.Errno, want api.Sheet, error api.Errno) {
	t.Helper()
	if error != api.OK {
		isError(t, what, got, e, error)
		return
	}
	isSheet(t, what, got, e, want)
}

// stitchesOf returns a sheet of stitches that are written as words with places, such as CTC@0; those without a word are sewings.
func stitchesOf(pairs int, text string) api.Sheet {
	s := api.Sheet{Pairs: pairs}
	for _, f := range strings.Fields(text) {
		word, at, _ := strings.Cut(f, "@")
		w := stitch(int(at[0]-'0'), word)
		if word == "" {
			w.Kind = api.WkSew
		}
		s.Works = append(s.Works, w)
	}
	return s
}

// joined returns the works of all sheets, on the pairs of the first one.
func joined(all ...api.Sheet) api.Sheet {
	s := api.Sheet{Pairs: all[0].Pairs}
	for _, x := range all {
		s.Works = append(s.Works, x.Works...)
	}
	return s
}

// put returns a sheet at a pair of a line.
func put(s api.Sheet, from, pairs int) api.Sheet {
	r := api.Sheet{Pairs: pairs}
	for _, w := range s.Works {
		r.Works = append(r.Works, api.Work{Kind: w.Kind, At: from + w.At, Word: w.Word})
	}
	return r
}

// Which letters are exchanged with which.
const (
	flips   = "LRlr"
	mirrors = "CcTtLrlR"
)

// turned returns a sheet from the other side, with the letters that stand next to each other exchanged.
func turned(s api.Sheet, exchanged string) api.Sheet {
	r := api.Sheet{Pairs: s.Pairs}
	for _, w := range s.Works {
		word := strings.Map(func(c rune) rune {
			if i := strings.IndexRune(exchanged, c); i >= 0 {
				return rune(exchanged[i^1])
			}
			return c
		}, w.Word)
		// The right one of its pairs is now as far from the left as it was from the right.
		r.Works = append(r.Works, api.Work{Kind: w.Kind, At: (s.Pairs - 1) - (w.At + 1), Word: word})
	}
	return r
}

// beforeTable returns for each two works whether the first one is before the second one.
func beforeTable(s api.Sheet) [][]bool {
	before := make([][]bool, len(s.Works))
	for a := range before {
		before[a] = make([]bool, len(s.Works))
	}
	for b := range s.Works {
		for a := b - 1; a >= 0; a-- {
			if d := s.Works[a].At - s.Works[b].At; d < -1 || d > 1 {
				continue
			}
			before[a][b] = true
			for k := range a {
				before[k][b] = before[k][b] || before[k][a]
			}
		}
	}
	return before
}

// chosen returns which works are in the cut of a sheet.
func chosen(s api.Sheet, from, to int) []bool {
	before := beforeTable(s)
	in := func(i int) bool { return s.Works[i].At >= from && s.Works[i].At+1 <= to }
	l := make([]bool, len(s.Works))
	for i := range l {
		l[i] = in(i)
		for k := range l {
			l[i] = l[i] && (in(k) || !before[k][i])
		}
	}
	return l
}

// piece returns the cut of a sheet.
func piece(s api.Sheet, from, to int) api.Sheet {
	r := api.Sheet{Pairs: to - from + 1}
	for i, is := range chosen(s, from, to) {
		if is {
			w := s.Works[i]
			w.At -= from
			r.Works = append(r.Works, w)
		}
	}
	return r
}

// groundWork returns the work of a ground with a number, from the number alone; the rows of its unit have so many cells.
func groundWork(p api.Pattern, u api.PtUnit, x api.PtPart, number int) api.Work {
	beside := x.Pairs / u.Pairs
	number %= beside * cellsOf(u)
	for _, row := range u.Rows {
		if number >= beside*len(row) {
			number -= beside * len(row)
			continue
		}
		c := row[number%len(row)]
		return stitch(number/len(row)*u.Pairs+c.At, p.Stitches[c.Stitch].Word)
	}
	return api.Work{}
}

func cellsOf(u api.PtUnit) int {
	n := 0
	for _, row := range u.Rows {
		n += len(row)
	}
	return n
}

// partOf returns the sheet of a part, or its error.
func partOf(p api.Pattern, x api.PtPart) (api.Sheet, api.Errno) {
	s := api.Sheet{Pairs: x.Pairs}
	switch x.Kind {
	case api.PtGround:
		u := p.Units[slices.IndexFunc(p.Units, func(u api.PtUnit) bool { return u.Name == x.Name })]
		for i := range x.Times * (x.Pairs / u.Pairs) * cellsOf(u) {
			s.Works = append(s.Works, groundWork(p, u, x, i))
		}
	case api.PtMotif:
		m, e := motifs.Make(x.Name, x.Sizes)
		if e != api.OK {
			return api.Sheet{}, e
		}
		if m.Pairs != x.Pairs {
			return api.Sheet{}, assemble.ErrWide
		}
		s = m
	case api.PtSew:
		s.Works = append(s.Works, sew(0))
	}
	if x.Flip {
		s = turned(s, flips)
	}
	return s, api.OK
}

// sheetOf returns what Sheet must return.
func sheetOf(p api.Pattern) (api.Sheet, int, api.Errno) {
	if _, e := pattern.Check(p); e != api.OK {
		return api.Sheet{}, 0, e
	}
	s := api.Sheet{Pairs: p.Pairs}
	for i, x := range p.Parts {
		part, e := partOf(p, x)
		s = joined(s, put(part, x.From, p.Pairs))
		if e == api.OK && len(s.Works) > 400 {
			e = api.ErrLong
		}
		if e != api.OK {
			return api.Sheet{}, i, e
		}
	}
	return s, 0, api.OK
}

func besideOf(a, b api.Sheet) (api.Sheet, api.Errno) {
	if e := checkOf(a, b); e != api.OK {
		return api.Sheet{}, e
	}
	s := joined(put(a, 0, a.Pairs+b.Pairs), put(b, a.Pairs, a.Pairs+b.Pairs))
	if s.Pairs > 24 || len(s.Works) > 400 {
		return api.Sheet{}, api.ErrLong
	}
	return s, api.OK
}

func belowOf(a, b api.Sheet) (api.Sheet, api.Errno) {
	if e := checkOf(a, b); e != api.OK {
		return api.Sheet{}, e
	}
	if a.Pairs != b.Pairs {
		return api.Sheet{}, api.ErrArg
	}
	if len(a.Works)+len(b.Works) > 400 {
		return api.Sheet{}, api.ErrLong
	}
	return joined(a, b), api.OK
}

func timesOf(a api.Sheet, n int) (api.Sheet, api.Errno) {
	if e := checkOf(a); e != api.OK {
		return api.Sheet{}, e
	}
	if n < 0 || n > 400 {
		return api.Sheet{}, api.ErrRange
	}
	s := api.Sheet{Pairs: a.Pairs}
	for range n {
		if s = joined(s, a); len(s.Works) > 400 {
			return api.Sheet{}, api.ErrLong
		}
	}
	return s, api.OK
}

func placeOf(a api.Sheet, from, pairs int) (api.Sheet, api.Errno) {
	if e := checkOf(a); e != api.OK {
		return api.Sheet{}, e
	}
	if pairs < 2 || pairs > 24 || from < 0 || from > 24 || from+a.Pairs > pairs {
		return api.Sheet{}, api.ErrRange
	}
	return put(a, from, pairs), api.OK
}

func cutOf(a api.Sheet, from, to int) (api.Sheet, api.Errno) {
	if e := checkOf(a); e != api.OK {
		return api.Sheet{}, e
	}
	if from < 0 || to >= a.Pairs || from >= to {
		return api.Sheet{}, api.ErrRange
	}
	return piece(a, from, to), api.OK
}

func turnOf(a api.Sheet, exchanged string) (api.Sheet, api.Errno) {
	if e := checkOf(a); e != api.OK {
		return api.Sheet{}, e
	}
	return turned(a, exchanged), api.OK
}

// checkOf returns the first error of sheets.
func checkOf(all ...api.Sheet) api.Errno {
	for _, s := range all {
		if e := sheet.Check(s); e != api.OK {
			return e
		}
	}
	return api.OK
}
