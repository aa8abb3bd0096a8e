package pattern_test

import (
	"math/big"
	"math/rand"
	"regexp"
	"slices"
	"testing"

	"torchon/api"
	"torchon/pattern"
)

var (
	nameForm = regexp.MustCompile(`\A[a-zA-Z][a-zA-Z0-9_]{0,15}\z`)
	wordForm = regexp.MustCompile(`\A[CLRTPclrt]*\z`)
)

// A verdict is an error, and where it is.
type verdict struct {
	at api.PtFault
	e  api.Errno
}

// A judge writes down what is wrong.
type judge struct {
	at api.PtFault
	l  []verdict
}

func (j *judge) say(e api.Errno, wrong bool) {
	if wrong {
		j.l = append(j.l, verdict{j.at, e})
	}
}

func outside(n, least, most int) bool { return n < least || n > most }

// checked returns what Check must return, found by the sentences of the chapter.
func checked(p api.Pattern) (api.PtFault, api.Errno) {
	j := &judge{at: fault(api.PtAll, 0)}
	j.say(api.ErrLong, len(p.Stitches) > 40 || len(p.Units) > 30 || len(p.Parts) > 100)
	j.say(api.ErrForm, !nameForm.MatchString(p.Name))
	j.say(api.ErrRange, outside(p.Pairs, 2, 24))
	var before []string
	for i, s := range p.Stitches {
		j.at = fault(api.PtStitches, i)
		j.say(api.ErrForm, !nameForm.MatchString(s.Name))
		j.say(api.ErrLong, len(s.Word) > 16)
		j.say(api.ErrForm, !wordForm.MatchString(s.Word))
		j.say(api.ErrTwice, slices.Contains(before, s.Name))
		before = append(before, s.Name)
	}
	before = nil
	for i, u := range p.Units {
		j.at = fault(api.PtUnits, i)
		j.say(api.ErrForm, !nameForm.MatchString(u.Name))
		j.say(api.ErrRange, outside(u.Pairs, 2, 24))
		j.say(api.ErrLong, len(u.Rows) > 40)
		j.say(api.ErrTwice, slices.Contains(before, u.Name))
		before = append(before, u.Name)
		j.cells(p, i)
	}
	for i := range p.Parts {
		// What is said of a part is only defined if all before it is right.
		if len(j.l) == 0 {
			j.part(p, i)
		}
	}
	if len(j.l) == 0 {
		return api.PtFault{}, api.OK
	}
	return j.l[0].at, j.l[0].e
}

func (j *judge) cells(p api.Pattern, i int) {
	u := p.Units[i]
	for row := range u.Rows {
		for k, c := range u.Rows[row] {
			j.at = api.PtFault{What: api.PtUnits, Index: i, Row: row, Cell: k}
			j.say(api.ErrRange, outside(c.At, 0, u.Pairs-2))
			j.say(api.ErrTwice, k > 0 && c.At < u.Rows[row][k-1].At+2)
			j.say(api.ErrNone, outside(c.Stitch, 0, len(p.Stitches)-1))
		}
	}
}

func (j *judge) part(p api.Pattern, i int) {
	x := p.Parts[i]
	j.at = fault(api.PtParts, i)
	end := new(big.Int).Add(big.NewInt(int64(x.From)), big.NewInt(int64(x.Pairs)))
	j.say(api.ErrArg, outside(x.Kind, 1, 3))
	j.say(api.ErrRange, x.From < 0 || x.Pairs < 2 || end.Cmp(big.NewInt(int64(p.Pairs))) > 0)
	switch x.Kind {
	case api.PtGround:
		k := slices.IndexFunc(p.Units, func(u api.PtUnit) bool { return u.Name == x.Name })
		j.say(api.ErrNone, k < 0)
		j.say(pattern.ErrUnit, k >= 0 && x.Pairs%p.Units[k].Pairs != 0)
		j.say(api.ErrRange, outside(x.Times, 1, 200))
		j.say(api.ErrArg, len(x.Sizes) > 0)
	case api.PtMotif:
		j.say(api.ErrForm, !nameForm.MatchString(x.Name))
		j.say(api.ErrArg, x.Times != 0)
		j.say(api.ErrLong, len(x.Sizes) > 8)
		j.say(api.ErrRange, slices.ContainsFunc(x.Sizes, func(n int) bool { return outside(n, 0, 100) }))
	case api.PtSew:
		j.say(api.ErrArg, x.Pairs != 2 || x.Name != "" || x.Times != 0 || len(x.Sizes) > 0 || x.Flip)
	}
	if len(j.l) == 0 && x.Kind != api.PtMotif {
		p.Parts = p.Parts[:i+1]
		j.say(api.ErrFull, len(worksOf(p)) > 400)
	}
}

// A kind of errors: of what, whether in a cell, and which ones.
type kind struct {
	what   int
	inCell bool
	e      api.Errno
}

// allKinds returns all kinds of errors that Check has.
func allKinds() []kind {
	var l []kind
	add := func(what int, inCell bool, errors ...api.Errno) {
		for _, e := range errors {
			l = append(l, kind{what, inCell, e})
		}
	}
	add(api.PtAll, false, api.OK, api.ErrLong, api.ErrForm, api.ErrRange)
	add(api.PtStitches, false, api.ErrForm, api.ErrLong, api.ErrTwice)
	add(api.PtUnits, false, api.ErrForm, api.ErrRange, api.ErrLong, api.ErrTwice)
	add(api.PtUnits, true, api.ErrRange, api.ErrTwice, api.ErrNone)
	add(api.PtParts, false, api.ErrArg, api.ErrRange, api.ErrNone, pattern.ErrUnit, api.ErrFull, api.ErrForm, api.ErrLong)
	return l
}

// P8.1: Check of many patterns, against the judge.
func TestCheckOfManyPatterns(t *testing.T) {
	met := map[kind]int{}
	manyPatterns(2, 40000, func(r *rand.Rand, p api.Pattern) {
		p = damaged(r, p)
		want, error := checked(p)
		if at, e := pattern.Check(p); at != want || e != error {
			t.Fatalf("Check of %v: %v, %d, want %v, %d", p, at, e, want, error)
		}
		met[kind{want.What, want.Row >= 0 && error != api.OK, error}]++
	})
	for _, k := range allKinds() {
		if met[k] < 10 {
			t.Errorf("the error %v was met %d times", k, met[k])
		}
	}
	if len(met) != len(allKinds()) {
		t.Errorf("the errors %v", met)
	}
}
