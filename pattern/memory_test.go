package pattern_test

import (
	"math/rand"
	"slices"
	"strings"
	"sync"
	"testing"
	"unsafe"

	"torchon/api"
	"torchon/pattern"
)

// A result is what a function returns.
type result struct {
	at              api.PtFault
	number          int
	stitches, units []int
	p               api.Pattern
	text            string
	e               api.Errno
}

func (r result) equal(s result) bool {
	return r.at == s.at && r.number == s.number && slices.Equal(r.stitches, s.stitches) && slices.Equal(r.units, s.units) && equal(r.p, s.p) && r.text == s.text && r.e == s.e
}

// empty reports whether there is nothing but an error.
func (r result) empty() bool { return r.equal(result{e: r.e}) }

// copied returns a result in new memory.
func (r result) copied() result {
	r.stitches, r.units, r.p = slices.Clone(r.stitches), slices.Clone(r.units), copied(r.p)
	return r
}

var functions = []string{"Check", "Works", "Uses", "Flip", "Tidy", "Print"}

// run calls a function with a pattern.
func run(name string, p api.Pattern) (r result) {
	switch name {
	case "Check":
		r.at, r.e = pattern.Check(p)
	case "Works":
		r.number, r.e = pattern.Works(p)
	case "Uses":
		r.stitches, r.units, r.e = pattern.Uses(p)
	case "Flip":
		r.p, r.e = pattern.Flip(p)
	case "Tidy":
		r.p, r.e = pattern.Tidy(p)
	case "Print":
		r.text, r.e = pattern.Print(p)
	}
	return r
}

func parse(text string) (r result) {
	r.p, r.number, r.e = pattern.Parse(text)
	return r
}

// roomy returns a list with room behind it.
func roomy[T any](l []T) []T { return append(make([]T, 0, len(l)+9), l...) }

// spacious returns a pattern all whose lists have room behind them, and whose strings have memory of their own.
func spacious(p api.Pattern) api.Pattern {
	p.Stitches, p.Units, p.Parts = roomy(p.Stitches), roomy(p.Units), roomy(p.Parts)
	for i := range p.Units {
		u := &p.Units[i]
		u.Rows = roomy(u.Rows)
		for k, row := range u.Rows {
			u.Rows[k] = roomy(row)
		}
	}
	for i := range p.Parts {
		p.Parts[i].Sizes = roomy(p.Parts[i].Sizes)
	}
	for _, s := range texts(&p) {
		*s = strings.Clone(*s)
	}
	return p
}

// spoil writes into all the memory of a pattern, also behind its lists.
func spoil(p api.Pattern) {
	for _, u := range p.Units[:cap(p.Units)] {
		for _, row := range u.Rows[:cap(u.Rows)] {
			row = row[:cap(row)]
			for i := range row {
				row[i] = cell(-99, -99)
			}
		}
		clear(u.Rows[:cap(u.Rows)])
	}
	for _, x := range p.Parts[:cap(p.Parts)] {
		clear(x.Sizes[:cap(x.Sizes)])
	}
	clear(p.Stitches[:cap(p.Stitches)])
	clear(p.Units[:cap(p.Units)])
	clear(p.Parts[:cap(p.Parts)])
}

func (r result) spoil() {
	clear(r.stitches[:cap(r.stitches)])
	clear(r.units[:cap(r.units)])
	spoil(r.p)
}

// whole returns a pattern in new memory, with what lies behind its lists.
func whole(p api.Pattern) api.Pattern {
	p.Stitches, p.Units, p.Parts = p.Stitches[:cap(p.Stitches)], p.Units[:cap(p.Units)], p.Parts[:cap(p.Parts)]
	p = copied(p)
	for i := range p.Units {
		u := &p.Units[i]
		u.Rows = slices.Clone(u.Rows[:cap(u.Rows)])
		for k, row := range u.Rows {
			u.Rows[k] = slices.Clone(row[:cap(row)])
		}
	}
	for i := range p.Parts {
		p.Parts[i].Sizes = slices.Clone(p.Parts[i].Sizes[:cap(p.Parts[i].Sizes)])
	}
	return p
}

// P8.7 and P1 (R3): arguments are not modified, and results are new memory: what is written into one of them changes neither an argument nor another result.
func TestMemory(t *testing.T) {
	p := spacious(rich())
	p.Parts = p.Parts[:6]
	before := whole(p)
	for _, name := range functions {
		first := run(name, p)
		want := first.copied()
		second := run(name, p)
		first.spoil()
		if third := run(name, p); first.e != api.OK || !second.equal(want) || !third.equal(want) {
			t.Errorf("%s: %v, %v and then %v", name, want, second, third)
		}
		if !equal(whole(p), before) {
			t.Fatalf("%s: the argument becomes %v", name, p)
		}
		q := spacious(p)
		third := run(name, q)
		spoil(q)
		if !third.equal(want) {
			t.Errorf("%s: %v becomes %v with its argument", name, want, third)
		}
	}
	text := strings.Clone(textE)
	first, second := parse(text), parse(text)
	first.spoil()
	if want := (result{p: exampleE()}); !second.equal(want) || !parse(text).equal(want) {
		t.Errorf("Parse: %v", second)
	}
}

// A span is from where to where in memory something lies.
type span struct{ from, to uintptr }

func spanOfText(s string) span {
	from := uintptr(unsafe.Pointer(unsafe.StringData(s)))
	return span{from, from + uintptr(len(s))}
}

// spanOf returns the span of a list, with what lies behind it.
func spanOf[T any](l []T) span {
	var one T
	from := uintptr(unsafe.Pointer(unsafe.SliceData(l)))
	return span{from, from + uintptr(cap(l))*unsafe.Sizeof(one)}
}

// spans returns where the strings and lists of a pattern lie.
func spans(p api.Pattern) []span {
	l := []span{spanOf(p.Stitches), spanOf(p.Units), spanOf(p.Parts)}
	for _, u := range p.Units {
		l = append(l, spanOf(u.Rows))
		for _, row := range u.Rows {
			l = append(l, spanOf(row))
		}
	}
	for _, x := range p.Parts {
		l = append(l, spanOf(x.Sizes))
	}
	for _, s := range texts(&p) {
		l = append(l, spanOfText(*s))
	}
	return slices.DeleteFunc(l, func(s span) bool { return s.from == s.to })
}

// shared returns how many pairs of spans have memory in common.
func shared(l []span) int {
	many := 0
	for i, s := range l {
		for _, o := range l[:i] {
			if s.from < o.to && o.from < s.to {
				many++
			}
		}
	}
	return many
}

// P8.7 and P1 (R3): strings and lists of a result share no memory with the argument, nor with each other.
func TestNothingIsShared(t *testing.T) {
	p := spacious(rich())
	text := strings.Clone(written(p))
	given := append(spans(p), spanOfText(text))
	if n := shared(given); n != 0 {
		t.Fatalf("the arguments share memory: %d", n)
	}
	flip, tidy, read := run("Flip", p), run("Tidy", p), parse(text)
	for name, r := range map[string]result{"Flip": flip, "Tidy": tidy, "Parse": read} {
		if n := shared(append(spans(r.p), given...)); n != 0 || r.e != api.OK {
			t.Errorf("%s: shared memory: %d", name, n)
		}
	}
	uses := run("Uses", p)
	if shared([]span{spanOf(uses.stitches), spanOf(uses.units)}) != 0 {
		t.Error("Uses: shared memory")
	}
}

// filled returns a pattern in which each empty list is nil, or none is nil.
func filled(p api.Pattern, empty bool) api.Pattern {
	p = copied(p)
	p.Stitches, p.Units, p.Parts = list(p.Stitches, empty), list(p.Units, empty), list(p.Parts, empty)
	for i := range p.Units {
		u := &p.Units[i]
		u.Rows = list(u.Rows, empty)
		for k, row := range u.Rows {
			u.Rows[k] = list(row, empty)
		}
	}
	for i := range p.Parts {
		p.Parts[i].Sizes = list(p.Parts[i].Sizes, empty)
	}
	return p
}

func list[T any](l []T, empty bool) []T {
	switch {
	case len(l) > 0:
		return l
	case empty:
		return []T{}
	}
	return nil
}

// P1 (R4): nil and empty lists mean the same.
func TestNilAndEmpty(t *testing.T) {
	for _, p := range []api.Pattern{rich(), exampleE(), {Name: "p", Pairs: 2}, {Name: "p", Pairs: 2, Stitches: []api.PtStitch{{Name: "a"}}, Units: []api.PtUnit{{Name: "u", Pairs: 2}}, Parts: []api.PtPart{ground("u", 0, 2, 1)}}} {
		for _, name := range functions {
			r, s := run(name, filled(p, false)), run(name, filled(p, true))
			if r.e != api.OK || !r.equal(s) {
				t.Errorf("%s of %v: %v with nil lists, and %v with empty ones", name, p, r, s)
			}
		}
	}
}

// P8.2 to P8.4, P8.7 and P1 (R1, R2): any patterns are accepted; errors are those of Check, and come alone.
func TestAnyPatterns(t *testing.T) {
	wrong := 0
	manyPatterns(9, 5000, func(r *rand.Rand, p api.Pattern) {
		p = damaged(r, p)
		_, check := checked(p)
		before := copied(p)
		for _, name := range functions {
			got := run(name, p)
			if got.e != check || name != "Check" && check != api.OK && !got.empty() {
				t.Fatalf("%s of %v: %v, and Check returns %d", name, p, got, check)
			}
		}
		if !equal(p, before) {
			t.Fatalf("%v becomes %v", before, p)
		}
		if check != api.OK {
			wrong++
		}
	})
	if wrong < 1000 {
		t.Errorf("only %d patterns are wrong", wrong)
	}
}

// P8.7 and P1 (R1, R2): any texts are accepted.
func TestAnyTexts(t *testing.T) {
	r := rand.New(rand.NewSource(10))
	for _, text := range []string{
		"\x00", "\n\n", "\xff\n", "é\n", "\"\n", "pattern\n", "pattern \"\n", "pattern p 2\n\"", "pattern p 2\n\xff\n", strings.Repeat("\n", 1<<20), strings.Repeat("x", 1<<21), strings.Repeat("row ", 1<<18) + "\n",
	} {
		if got := parse(text); got.e == api.OK || !equal(got.p, api.Pattern{}) {
			t.Errorf("Parse(%.30q): %v", text, got)
		}
	}
	for range 20000 {
		text := []byte(textE)
		for range 1 + r.Intn(4) {
			text[r.Intn(len(text))] = byte(r.Intn(256))
		}
		got := parse(string(text))
		if got.e != api.OK && !(result{number: got.number, e: got.e}).equal(got) || got.e == api.OK && got.number != 0 {
			t.Fatalf("Parse(%q): %v", text, got)
		}
	}
}

// P1 (R6): results depend on the arguments alone, also when many calls run at the same time.
func TestCallsAreIndependent(t *testing.T) {
	var given []api.Pattern
	manyPatterns(11, 30, func(r *rand.Rand, p api.Pattern) { given = append(given, p, damaged(r, p)) })
	look := func() []result {
		var l []result
		for _, p := range given {
			for _, name := range functions {
				l = append(l, run(name, p))
			}
			l = append(l, parse(run("Print", p).text))
		}
		return l
	}
	want := look()
	var group sync.WaitGroup
	for range 8 {
		group.Go(func() {
			for range 5 {
				if got := look(); !slices.EqualFunc(got, want, result.equal) {
					t.Error("the results are others")
				}
			}
		})
	}
	group.Wait()
}
