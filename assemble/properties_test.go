package assemble_test

import (
	"math/rand"
	"slices"
	"testing"

	"torchon/api"
	"torchon/assemble"
	"torchon/motifs"
	"torchon/pattern"
	"torchon/sheet"
	"torchon/traces"
)

// A lab calls functions that must have no error.
type lab struct{ t *testing.T }

func (l lab) sheet(s api.Sheet, e api.Errno) api.Sheet {
	l.t.Helper()
	if e != api.OK {
		l.t.Fatalf("the error %d", e)
	}
	return s
}

func (l lab) made(p api.Pattern) api.Sheet {
	l.t.Helper()
	s, _, e := assemble.Sheet(p)
	return l.sheet(s, e)
}

func (l lab) beside(a, b api.Sheet) api.Sheet {
	l.t.Helper()
	return l.sheet(assemble.Beside(a, b))
}

func (l lab) below(a, b api.Sheet) api.Sheet {
	l.t.Helper()
	return l.sheet(assemble.Below(a, b))
}

func (l lab) times(a api.Sheet, n int) api.Sheet {
	l.t.Helper()
	return l.sheet(assemble.Times(a, n))
}

func (l lab) flip(a api.Sheet) api.Sheet {
	l.t.Helper()
	return l.sheet(assemble.Flip(a))
}

func (l lab) mirror(a api.Sheet) api.Sheet {
	l.t.Helper()
	return l.sheet(assemble.Mirror(a))
}

func (l lab) equal(what string, a, b api.Sheet) {
	l.t.Helper()
	if !equal(a, b) {
		l.t.Fatalf("%s: %v and %v", what, a, b)
	}
}

func (l lab) same(what string, a, b api.Sheet) {
	l.t.Helper()
	if is, e := traces.Same(a, b); !is || e != api.OK {
		l.t.Fatalf("%s: %v and %v are not the same lace, %d", what, a, b, e)
	}
}

// P10.4: the sheet of the flipped pattern is the sheet of the pattern, flipped.
func TestFlippedPatterns(t *testing.T) {
	l := lab{t}
	manyPatterns(4, 3000, func(_ *rand.Rand, p api.Pattern) {
		q, e := pattern.Flip(p)
		if e != api.OK {
			t.Fatalf("Flip of %v: %d", p, e)
		}
		l.equal("the sheet of a flipped pattern, and a flipped sheet", l.made(q), l.flip(l.made(p)))
	})
}

// P10.4: Flip and Mirror undo themselves; both together change only words, and it does not matter which one is first.
func TestTwice(t *testing.T) {
	l := lab{t}
	manySheets(5, 1000, func(_ *rand.Rand, s api.Sheet) {
		l.equal("Flip of Flip", l.flip(l.flip(s)), s)
		l.equal("Mirror of Mirror", l.mirror(l.mirror(s)), s)
		l.equal("Flip and Mirror", l.flip(l.mirror(s)), l.mirror(l.flip(s)))
	})
}

// P10.4: a sheet has as many works as pattern.Works says, and those of its motifs.
func TestNumberOfWorks(t *testing.T) {
	l := lab{t}
	manyPatterns(6, 2000, func(_ *rand.Rand, p api.Pattern) {
		want, _ := pattern.Works(p)
		for _, x := range p.Parts {
			if x.Kind == api.PtMotif {
				m, _ := motifs.Make(x.Name, x.Sizes)
				want += len(m.Works)
			}
		}
		if s := l.made(p); len(s.Works) != want || s.Pairs != p.Pairs || sheet.Check(s) != api.OK {
			t.Fatalf("%v: %d works, want %d", p, len(s.Works), want)
		}
	})
}

// apart returns whether two parts have no pair in common.
func apart(x, y api.PtPart) bool {
	return x.From+x.Pairs <= y.From || y.From+y.Pairs <= x.From
}

// P10.5: neighbouring parts without a common pair may be exchanged.
func TestExchangedParts(t *testing.T) {
	l := lab{t}
	tried, other := 0, 0
	manyPatterns(7, 3000, func(_ *rand.Rand, p api.Pattern) {
		for i := 0; i+1 < len(p.Parts); i++ {
			q := with(p, slices.Clone(p.Parts)...)
			q.Parts[i], q.Parts[i+1] = p.Parts[i+1], p.Parts[i]
			if apart(p.Parts[i], p.Parts[i+1]) {
				l.same("exchanged parts", l.made(p), l.made(q))
				tried++
			} else if is, _ := traces.Same(l.made(p), l.made(q)); !is {
				other++
			}
		}
	})
	// That others are not the same lace shows that the question is one.
	if tried < 500 || other < 500 {
		t.Errorf("%d parts were exchanged, and %d are other lace", tried, other)
	}
}

// fours calls with four sheets: two on the same pairs, and two others on the same pairs, which fit beside each other.
func fours(seed int64, n int, call func(a, b, c, d api.Sheet)) {
	r := rand.New(rand.NewSource(seed))
	for range n {
		left := 2 + r.Intn(21)
		right := 2 + r.Intn(23-left)
		call(someSheet(r, left, r.Intn(30)), someSheet(r, left, r.Intn(30)), someSheet(r, right, r.Intn(30)), someSheet(r, right, r.Intn(30)))
	}
	call(someSheet(r, 12, 100), someSheet(r, 12, 100), someSheet(r, 12, 100), someSheet(r, 12, 100))
}

// P10.5: it does not matter whether sheets are first put beside or below each other, nor whether they are flipped before or afterwards.
func TestBesideAndBelow(t *testing.T) {
	l := lab{t}
	fours(8, 1000, func(a, b, c, d api.Sheet) {
		l.same("Beside of Below", l.beside(l.below(a, b), l.below(c, d)), l.below(l.beside(a, c), l.beside(b, d)))
		l.same("Beside of flipped sheets", l.beside(l.flip(c), l.flip(a)), l.flip(l.beside(a, c)))
		l.same("Beside of mirrored sheets", l.beside(l.mirror(c), l.mirror(a)), l.mirror(l.beside(a, c)))
		l.equal("Below of flipped sheets", l.below(l.flip(a), l.flip(b)), l.flip(l.below(a, b)))
	})
}

// grouped returns three sheets that are joined, the first two and the last two first.
func grouped(join func(a, b api.Sheet) (api.Sheet, api.Errno), a, b, c api.Sheet) (left, right result) {
	if left.s, left.e = join(a, b); left.e == api.OK {
		left.s, left.e = join(left.s, c)
	}
	if right.s, right.e = join(b, c); right.e == api.OK {
		right.s, right.e = join(a, right.s)
	}
	return left, right
}

// P10.6: Beside and Below may be grouped in any way, also where they are not defined.
func TestGroups(t *testing.T) {
	r := rand.New(rand.NewSource(9))
	met := map[api.Errno]int{}
	for range 1000 {
		a, b, c := someSheet(r, 2+r.Intn(10), r.Intn(200)), someSheet(r, 2+r.Intn(10), r.Intn(200)), someSheet(r, 2+r.Intn(10), r.Intn(200))
		left, right := grouped(assemble.Beside, a, b, c)
		if !left.equal(right) {
			t.Fatalf("Beside: %v and %v", left, right)
		}
		met[left.e]++
		a.Pairs, b.Pairs, c.Pairs = 24, 24, 24
		left, right = grouped(assemble.Below, a, b, c)
		if !left.equal(right) {
			t.Fatalf("Below: %v and %v", left, right)
		}
		met[left.e]++
	}
	if met[api.OK] < 300 || met[api.ErrLong] < 300 {
		t.Errorf("%v", met)
	}
}

// P10.6: Times of a sum is Below of both.
func TestTimesOfSums(t *testing.T) {
	l := lab{t}
	for _, works := range []int{0, 1, 3, 50, 200, 400} {
		a := someSheet(rand.New(rand.NewSource(10)), 5, works)
		most := 30
		if works > 0 {
			most = min(400/works, 30)
		}
		for n := range most + 1 {
			for m := range most - n + 1 {
				l.equal("Times of a sum", l.times(a, n+m), l.below(l.times(a, n), l.times(a, m)))
			}
		}
	}
}

// P10.6: Cut of a placed sheet is the sheet, also if others are beside it.
func TestCutOfPlace(t *testing.T) {
	l := lab{t}
	manySheets(11, 1000, func(r *rand.Rand, a api.Sheet) {
		from := r.Intn(25 - a.Pairs)
		pairs := from + a.Pairs + r.Intn(25-from-a.Pairs)
		placed := l.sheet(assemble.Place(a, from, pairs))
		l.equal("Cut of Place", l.sheet(assemble.Cut(placed, from, from+a.Pairs-1)), a)
		if len(a.Works) > 300 || a.Pairs > 22 {
			return
		}
		b := someSheet(r, 2+r.Intn(23-a.Pairs), r.Intn(20))
		l.equal("Cut of the left", l.sheet(assemble.Cut(l.beside(a, b), 0, a.Pairs-1)), a)
		l.equal("Cut of the right", l.sheet(assemble.Cut(l.beside(a, b), a.Pairs, a.Pairs+b.Pairs-1)), b)
	})
}

// P10.6: the works of a cut may be made before all others, and no other work in their places could be.
func TestCutIsMadeFirst(t *testing.T) {
	l := lab{t}
	manySheets(12, 1000, func(r *rand.Rand, a api.Sheet) {
		from := r.Intn(a.Pairs - 1)
		to := from + 1 + r.Intn(a.Pairs-1-from)
		cut := l.sheet(assemble.Cut(a, from, to))
		var order, rest []int
		for i, is := range chosen(a, from, to) {
			if is {
				order = append(order, i)
			} else {
				rest = append(rest, i)
			}
		}
		s := l.sheet(sheet.Reorder(a, append(slices.Clone(order), rest...)))
		first := l.sheet(assemble.Place(cut, from, a.Pairs))
		if !slices.Equal(s.Works[:len(order)], first.Works) {
			t.Fatalf("Cut of %v from %d to %d: %v", a, from, to, cut)
		}
		ready, e := sheet.Ready(a, order)
		if e != api.OK || slices.ContainsFunc(ready, func(i int) bool { return from <= a.Works[i].At && a.Works[i].At < to }) {
			t.Fatalf("%v: after the cut from %d to %d, %v is ready, %d", a, from, to, ready, e)
		}
	})
}

// P10.7: a ground that is made t times is t grounds that are made once.
func TestGroundsOnce(t *testing.T) {
	l := lab{t}
	tried := 0
	manyPatterns(13, 3000, func(_ *rand.Rand, p api.Pattern) {
		q := with(p)
		for _, x := range p.Parts {
			many := max(x.Times, 1)
			if x.Kind == api.PtGround {
				x.Times = 1
			}
			q.Parts = append(q.Parts, slices.Repeat([]api.PtPart{x}, many)...)
		}
		if len(q.Parts) > 100 {
			return
		}
		l.equal("grounds once", l.made(q), l.made(p))
		if len(q.Parts) > len(p.Parts) {
			tried++
		}
	})
	if tried < 500 {
		t.Errorf("only %d patterns were changed", tried)
	}
	p := with(exampleE(), ground("net", 0, 6, 66), sewing(0))
	q := with(exampleE(), append(slices.Repeat([]api.PtPart{ground("net", 0, 6, 1)}, 66), sewing(0))...)
	l.equal("66 grounds", l.made(p), l.made(q))
}

// P10.7: without one of its parts, a pattern has a sheet without the works of this part.
func TestWithoutParts(t *testing.T) {
	l := lab{t}
	manyPatterns(14, 2000, func(_ *rand.Rand, p api.Pattern) {
		works := l.made(p).Works
		before := 0
		for i := range p.Parts {
			behind := len(l.made(with(p, p.Parts[:i+1]...)).Works)
			want := api.Sheet{Pairs: p.Pairs, Works: slices.Concat(works[:before], works[behind:])}
			l.equal("without a part", l.made(with(p, slices.Concat(p.Parts[:i], p.Parts[i+1:])...)), want)
			before = behind
		}
	})
}
