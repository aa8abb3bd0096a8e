package assemble_test

import (
	"math"
	"math/rand"
	"slices"
	"strings"
	"sync"
	"testing"
	"unsafe"

	"torchon/api"
	"torchon/assemble"
	"torchon/pattern"
	"torchon/sheet"
)

// An all is what all functions are given.
type all struct {
	p       api.Pattern
	a, b    api.Sheet
	i, n, m int
}

// A result is what a function returns.
type result struct {
	s   api.Sheet
	bad int
	e   api.Errno
}

func (r result) equal(o result) bool { return equal(r.s, o.s) && r.bad == o.bad && r.e == o.e }

// copied returns a result in new memory.
func (r result) copied() result {
	r.s.Works = slices.Clone(r.s.Works)
	return r
}

var names = []string{"Sheet", "Beside", "Below", "Times", "Flip", "Mirror", "Place", "Cut"}

// run calls a function.
func (x all) run(name string) (r result) {
	switch name {
	case "Sheet":
		r.s, r.bad, r.e = assemble.Sheet(x.p)
	case "Beside":
		r.s, r.e = assemble.Beside(x.a, x.b)
	case "Below":
		r.s, r.e = assemble.Below(x.a, x.b)
	case "Times":
		r.s, r.e = assemble.Times(x.a, x.i)
	case "Flip":
		r.s, r.e = assemble.Flip(x.a)
	case "Mirror":
		r.s, r.e = assemble.Mirror(x.a)
	case "Place":
		r.s, r.e = assemble.Place(x.a, x.i, x.n)
	case "Cut":
		r.s, r.e = assemble.Cut(x.a, x.i, x.m)
	}
	return r
}

// judged says what a function must return.
func (x all) judged(name string) (r result) {
	switch name {
	case "Sheet":
		r.s, r.bad, r.e = sheetOf(x.p)
	case "Beside":
		r.s, r.e = besideOf(x.a, x.b)
	case "Below":
		r.s, r.e = belowOf(x.a, x.b)
	case "Times":
		r.s, r.e = timesOf(x.a, x.i)
	case "Flip":
		r.s, r.e = turnOf(x.a, flips)
	case "Mirror":
		r.s, r.e = turnOf(x.a, mirrors)
	case "Place":
		r.s, r.e = placeOf(x.a, x.i, x.n)
	case "Cut":
		r.s, r.e = cutOf(x.a, x.i, x.m)
	}
	return r
}

// roomy returns a list with room behind it.
func roomy[T any](l []T) []T { return append(make([]T, 0, len(l)+9), l...) }

// roomySheet returns a sheet whose list has room behind it, and whose words have memory of their own.
func roomySheet(s api.Sheet) api.Sheet {
	s.Works = roomy(s.Works)
	for i := range s.Works {
		s.Works[i].Word = strings.Clone(s.Works[i].Word)
	}
	return s
}

// roomyPattern returns a pattern whose lists have room behind them, and whose words have memory of their own.
func roomyPattern(p api.Pattern) api.Pattern {
	p.Stitches, p.Units, p.Parts = roomy(p.Stitches), roomy(p.Units), roomy(p.Parts)
	for i := range p.Stitches {
		p.Stitches[i].Word = strings.Clone(p.Stitches[i].Word)
	}
	for i, u := range p.Units {
		p.Units[i].Rows = roomy(u.Rows)
		for k, row := range u.Rows {
			p.Units[i].Rows[k] = roomy(row)
		}
	}
	for i, x := range p.Parts {
		p.Parts[i].Sizes = roomy(x.Sizes)
	}
	return p
}

func roomyAll(x all) all {
	x.p, x.a, x.b = roomyPattern(x.p), roomySheet(x.a), roomySheet(x.b)
	return x
}

// whole returns lists with what lies behind them in their memory.
func whole[T any](l []T) []T { return l[:cap(l)] }

// samePatterns reports whether two patterns are the same, also behind their lists.
func samePatterns(p, q api.Pattern) bool {
	sameRows := func(a, b []api.PtCell) bool { return slices.Equal(whole(a), whole(b)) }
	sameUnits := func(u, v api.PtUnit) bool {
		return u.Name == v.Name && u.Pairs == v.Pairs && slices.EqualFunc(whole(u.Rows), whole(v.Rows), sameRows)
	}
	sameParts := func(x, y api.PtPart) bool {
		ok := slices.Equal(whole(x.Sizes), whole(y.Sizes)) && x.Kind == y.Kind && x.Name == y.Name
		return ok && x.From == y.From && x.Pairs == y.Pairs && x.Times == y.Times && x.Flip == y.Flip
	}
	ok := p.Name == q.Name && p.Pairs == q.Pairs && slices.Equal(whole(p.Stitches), whole(q.Stitches))
	return ok && slices.EqualFunc(whole(p.Units), whole(q.Units), sameUnits) && slices.EqualFunc(whole(p.Parts), whole(q.Parts), sameParts)
}

// same reports whether the sheets and patterns that are given are the same, also behind their lists.
func (x all) same(y all) bool {
	ok := samePatterns(x.p, y.p) && x.a.Pairs == y.a.Pairs && x.b.Pairs == y.b.Pairs
	return ok && slices.Equal(whole(x.a.Works), whole(y.a.Works)) && slices.Equal(whole(x.b.Works), whole(y.b.Works))
}

// spoil writes into all the memory of a list, also behind it.
func spoil[T any](l []T, with T) {
	l = l[:cap(l)]
	for i := range l {
		l[i] = with
	}
}

// spoil writes into all that the functions are given.
func (x all) spoil() {
	for _, u := range x.p.Units {
		for _, row := range u.Rows {
			spoil(row, api.PtCell{At: -99, Stitch: -99})
		}
		spoil(u.Rows, nil)
	}
	for _, y := range x.p.Parts {
		spoil(y.Sizes, -99)
	}
	spoil(x.p.Stitches, api.PtStitch{Name: "spoiled", Word: "spoiled"})
	spoil(x.p.Units, api.PtUnit{Name: "spoiled"})
	spoil(x.p.Parts, api.PtPart{Name: "spoiled"})
	spoil(x.a.Works, api.Work{Kind: -99, At: -99, Word: "spoiled"})
	spoil(x.b.Works, api.Work{Kind: -99, At: -99, Word: "spoiled"})
}

// examples returns arguments with which all functions have a result.
func examples() all {
	return all{p: exampleE(), a: stitchesOf(4, "CL@0 @1 Rp@2 T@0"), b: stitchesOf(4, "P@1 CTC@0"), i: 1, n: 7, m: 3}
}

// P10.8 and P1 (R3): arguments are not modified, and results are new memory: what is written into one of them changes neither an argument nor another result.
func TestMemory(t *testing.T) {
	x := examples()
	x.b.Works[0].Word, x.a.Works[2].Word = "PC", "Rr"
	for _, name := range names {
		given, before := roomyAll(x), roomyAll(x)
		first := given.run(name)
		want := first.copied()
		second := given.run(name)
		if first.e != api.OK || !first.equal(x.judged(name)) || !given.same(before) {
			t.Errorf("%s: %v, and the arguments become %v", name, first, given)
		}
		spoil(first.s.Works, api.Work{Kind: -99, At: -99, Word: "spoiled"})
		if third := given.run(name); !second.equal(want) || !third.equal(want) || !given.same(before) {
			t.Errorf("%s: %v, %v and then %v; the arguments become %v", name, want, second, third, given)
		}
		given.spoil()
		if !second.equal(want) {
			t.Errorf("%s: %v becomes %v", name, want, second)
		}
	}
}

// P10.8 and P1 (R3): the words of results are new memory as well.
func TestWordsAreNew(t *testing.T) {
	for _, name := range names {
		given := roomyAll(examples())
		old := map[*byte]bool{}
		for _, s := range given.p.Stitches {
			old[unsafe.StringData(s.Word)] = true
		}
		for _, w := range slices.Concat(given.a.Works, given.b.Works) {
			old[unsafe.StringData(w.Word)] = true
		}
		for _, r := range []result{given.run(name), given.run(name)} {
			for i, w := range r.s.Works {
				if w.Word != "" && old[unsafe.StringData(w.Word)] {
					t.Errorf("%s: the word of the work %d is kept", name, i)
				}
			}
			for _, w := range r.s.Works {
				old[unsafe.StringData(w.Word)] = true
			}
		}
	}
}

// P1 (R4): nil and empty lists mean the same, also in units and parts.
func TestNilAndEmpty(t *testing.T) {
	p := with(exampleE(), ground("net", 0, 4, 1), motif("windmill", 0, 4), sewing(0))
	p.Units[0].Rows = append(p.Units[0].Rows, nil)
	q := with(exampleE(), p.Parts...)
	q.Units[0].Rows = append(q.Units[0].Rows, []api.PtCell{})
	for i := range q.Parts {
		q.Parts[i].Sizes = []int{}
	}
	bare := api.Pattern{Name: "bare", Pairs: 2}
	empty := bare
	empty.Stitches, empty.Units, empty.Parts = []api.PtStitch{}, []api.PtUnit{}, []api.PtPart{}
	none, no := api.Sheet{Pairs: 2}, api.Sheet{Pairs: 2, Works: []api.Work{}}
	for i, x := range [][2]all{
		{{p: p, a: none, b: none, n: 3, m: 1}, {p: q, a: no, b: no, n: 3, m: 1}},
		{{p: bare, a: column(2, 3), b: none, i: 400, m: 1}, {p: empty, a: column(2, 3), b: no, i: 400, m: 1}},
		{{a: none, b: column(2, 3), i: 1, n: 5}, {a: no, b: column(2, 3), i: 1, n: 5}},
		{{}, {p: api.Pattern{Parts: []api.PtPart{}}, a: api.Sheet{Works: []api.Work{}}}},
	} {
		for _, name := range names {
			if r, s := x[0].run(name), x[1].run(name); !r.equal(s) || !r.equal(x[0].judged(name)) {
				t.Errorf("%d, %s: %v and %v", i, name, r, s)
			}
		}
	}
}

// wild returns a number that is often at or beyond a limit.
func wild(r *rand.Rand, limit int) int {
	some := []int{0, 1, 2, 3, 5, -1, limit - 1, limit, limit + 1, -limit, 1 << 31, 1 << 62, math.MaxInt, math.MinInt}
	return some[min(r.Intn(len(some)), r.Intn(len(some)))]
}

// anySheet returns a sheet that need not be valid.
func anySheet(r *rand.Rand) api.Sheet {
	s := someSheet(r, 2+r.Intn(5), r.Intn(30))
	if r.Intn(40) == 0 {
		s = someSheet(r, 2+r.Intn(23), 400)
	}
	switch r.Intn(20) {
	case 0:
		s.Pairs = wild(r, 24)
	case 1:
		s.Works = append(s.Works, api.Work{Kind: wild(r, 2), At: wild(r, s.Pairs), Word: someWord(r)})
	case 2:
		s.Works = append(s.Works, stitch(0, []string{"x", "CTx", strings.Repeat("T", 17), "\x00"}[r.Intn(4)]))
	}
	return s
}

// anyAll returns any arguments.
func anyAll(r *rand.Rand) all {
	x := all{p: somePattern(r), a: anySheet(r), b: anySheet(r), i: wild(r, 400), n: wild(r, 24), m: wild(r, 24)}
	if r.Intn(2) == 0 {
		x.b.Pairs = x.a.Pairs
	}
	if r.Intn(3) == 0 {
		x.p.Pairs = wild(r, 24)
	}
	if len(x.p.Parts) > 0 {
		y := &x.p.Parts[r.Intn(len(x.p.Parts))]
		*[]*int{&y.Kind, &y.From, &y.Pairs, &y.Times}[r.Intn(4)] = wild(r, 100)
	}
	spoilPart(r, &x.p)
	return x
}

// P10.8 and P1 (R1, R2): any arguments are accepted, and errors come alone, but for the index of a part.
func TestAnyArguments(t *testing.T) {
	r := rand.New(rand.NewSource(15))
	met := map[api.Errno]int{}
	for range 20000 {
		x := anyAll(r)
		for _, name := range names {
			got, want := x.run(name), x.judged(name)
			if !got.equal(want) {
				t.Fatalf("%s of %v: %v, want %v", name, x, got, want)
			}
			if got.e != api.OK && !equal(got.s, api.Sheet{}) || name != "Sheet" && got.bad != 0 {
				t.Fatalf("%s of %v: %v with the error %d", name, x, got, got.e)
			}
			met[got.e]++
		}
	}
	for _, e := range []api.Errno{api.OK, api.ErrArg, api.ErrLong, api.ErrNone, api.ErrForm, api.ErrRange, api.ErrFull, pattern.ErrUnit, assemble.ErrWide} {
		if met[e] < 10 {
			t.Errorf("the error %d was met %d times", e, met[e])
		}
	}
}

// P1 (R8): results have no other fields than their kind has.
func TestFieldsOfResults(t *testing.T) {
	r := rand.New(rand.NewSource(16))
	for range 3000 {
		x := anyAll(r)
		for _, name := range names {
			if got := x.run(name); got.e == api.OK && sheet.Check(got.s) != api.OK {
				t.Fatalf("%s of %v: %v", name, x, got)
			}
		}
	}
}

// P1 (R6): results depend on the arguments alone, also when many calls run at the same time.
func TestCallsAreIndependent(t *testing.T) {
	r := rand.New(rand.NewSource(17))
	given := []all{examples()}
	for range 100 {
		given = append(given, anyAll(r))
	}
	var group sync.WaitGroup
	for k := range 8 {
		group.Go(func() {
			for _, i := range rand.New(rand.NewSource(int64(k))).Perm(len(given)) {
				for _, name := range names {
					if got, want := given[i].run(name), given[i].judged(name); !got.equal(want) {
						t.Errorf("%s of %v: %v, want %v", name, given[i], got, want)
					}
				}
			}
		})
	}
	group.Wait()
}
