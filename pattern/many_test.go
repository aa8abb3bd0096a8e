package pattern_test

import (
	"math"
	"math/rand"
	"slices"
	"strings"
	"testing"

	"torchon/api"
	"torchon/pattern"
)

// someText returns a text of so many of the bytes.
func someText(r *rand.Rand, bytes string, long int) string {
	var text strings.Builder
	for range long {
		text.WriteByte(bytes[r.Intn(len(bytes))])
	}
	return text.String()
}

// someNames returns different names.
func someNames(r *rand.Rand, many int) []string {
	var l []string
	for len(l) < many {
		s := names[r.Intn(len(names))]
		if r.Intn(2) == 0 {
			s = someText(r, "abXY", 1) + someText(r, "abXY_09", r.Intn(1+r.Intn(16)))
		}
		if !slices.Contains(l, s) {
			l = append(l, s)
		}
	}
	return l
}

// few returns a number from 0 on that is small, but for times, and then at most most.
func few(r *rand.Rand, small, most int) int {
	if r.Intn(20) == 0 {
		return most - r.Intn(2)
	}
	return r.Intn(small + 1)
}

// someRow returns a row of a unit.
func someRow(r *rand.Rand, pairs, stitches int) []api.PtCell {
	var row []api.PtCell
	for at := r.Intn(3); at <= pairs-2 && stitches > 0 && r.Intn(9) > 0; at += 2 + r.Intn(2) {
		row = append(row, cell(at, r.Intn(stitches)))
	}
	return row
}

// somePart returns a part on pairs of the pattern.
func somePart(r *rand.Rand, p api.Pattern) api.PtPart {
	pairs := 2 + r.Intn(p.Pairs-1)
	from := r.Intn(p.Pairs - pairs + 1)
	flip := r.Intn(2) == 0
	kind := r.Intn(3)
	if kind == 0 && len(p.Units) > 0 {
		u := p.Units[r.Intn(len(p.Units))]
		if copies := p.Pairs / u.Pairs; copies > 0 {
			pairs = u.Pairs * (1 + r.Intn(copies))
			x := ground(u.Name, r.Intn(p.Pairs-pairs+1), pairs, 1+few(r, 3, 199))
			x.Flip = flip
			return x
		}
	}
	if kind == 1 {
		return sewing(r.Intn(p.Pairs - 1))
	}
	x := motif(someNames(r, 1)[0], from, pairs)
	for range r.Intn(9) {
		x.Sizes = append(x.Sizes, few(r, 4, 100))
	}
	x.Flip = flip
	return x
}

// somePattern returns a valid pattern.
func somePattern(r *rand.Rand) api.Pattern {
	p := api.Pattern{Name: someNames(r, 1)[0], Pairs: 2 + few(r, 10, 22)}
	for _, name := range someNames(r, few(r, 4, 40)) {
		p.Stitches = append(p.Stitches, api.PtStitch{Name: name, Word: someText(r, "CLRTPclrt", r.Intn(17))})
	}
	for _, name := range someNames(r, few(r, 3, 30)) {
		u := api.PtUnit{Name: name, Pairs: 2 + few(r, 4, 22)}
		for range few(r, 3, 40) {
			u.Rows = append(u.Rows, someRow(r, u.Pairs, len(p.Stitches)))
		}
		p.Units = append(p.Units, u)
	}
	for range few(r, 6, 100) {
		p.Parts = append(p.Parts, somePart(r, p))
		if len(worksOf(p)) > 400 {
			p.Parts = p.Parts[:len(p.Parts)-1]
		}
	}
	return p
}

// manyPatterns calls with many valid patterns.
func manyPatterns(seed int64, n int, call func(r *rand.Rand, p api.Pattern)) {
	r := rand.New(rand.NewSource(seed))
	for range n {
		call(r, somePattern(r))
	}
}

// numbers returns where the numbers of a pattern are.
func numbers(p *api.Pattern) []*int {
	l := []*int{&p.Pairs}
	for i := range p.Units {
		l = append(l, &p.Units[i].Pairs)
		for _, row := range p.Units[i].Rows {
			for k := range row {
				l = append(l, &row[k].At, &row[k].Stitch)
			}
		}
	}
	for i := range p.Parts {
		x := &p.Parts[i]
		l = append(l, &x.Kind, &x.From, &x.Pairs, &x.Times)
		for k := range x.Sizes {
			l = append(l, &x.Sizes[k])
		}
	}
	return l
}

// texts returns where the strings of a pattern are.
func texts(p *api.Pattern) []*string {
	l := []*string{&p.Name}
	for i := range p.Stitches {
		l = append(l, &p.Stitches[i].Name, &p.Stitches[i].Word)
	}
	for i := range p.Units {
		l = append(l, &p.Units[i].Name)
	}
	for i := range p.Parts {
		l = append(l, &p.Parts[i].Name)
	}
	return l
}

// damage changes something of a pattern, which need not be valid afterwards.
func damage(r *rand.Rand, p *api.Pattern) {
	switch r.Intn(12) {
	default:
		l := numbers(p)
		wild := []int{0, 1, 2, 3, 4, 5, -1, 23, 24, 25, 100, 101, 200, 201, math.MaxInt, math.MinInt, *l[r.Intn(len(l))]}
		*l[r.Intn(len(l))] = wild[r.Intn(len(wild))]
	case 0, 1:
		l := texts(p)
		*l[r.Intn(len(l))] = *l[r.Intn(len(l))]
	case 2:
		l := texts(p)
		wild := []string{"", "-", "CT", "CTX", "a b", strings.Repeat("C", 16), strings.Repeat("C", 17), strings.Repeat("x", 17), "é"}
		*l[r.Intn(len(l))] = wild[r.Intn(len(wild))]
	case 3:
		if len(p.Parts) > 0 {
			x := &p.Parts[r.Intn(len(p.Parts))]
			x.Sizes = make([]int, r.Intn(11))
			x.Flip = !x.Flip
		}
	case 4:
		if len(p.Parts) > 0 {
			p.Parts = append(p.Parts, p.Parts[r.Intn(len(p.Parts))])
		}
	case 5:
		if len(p.Units) > 0 {
			manyRows(&p.Units[r.Intn(len(p.Units))], 40+r.Intn(2))
		}
	case 6:
		grow := []func(){func() { manyStitches(p, 40+r.Intn(2)) }, func() { manyUnits(p, 30+r.Intn(2)) }, func() { manyParts(p, 100+r.Intn(2)) }}
		grow[r.Intn(3)]()
	}
}

// damaged returns a pattern that is changed a little.
func damaged(r *rand.Rand, p api.Pattern) api.Pattern {
	q := copied(p)
	for range 1 + r.Intn(3) {
		damage(r, &q)
	}
	return q
}

// The patterns with which the other tests are made are many sorts of valid ones.
func TestManyPatterns(t *testing.T) {
	met := map[string]int{}
	manyPatterns(1, 2000, func(r *rand.Rand, p api.Pattern) {
		if at, e := pattern.Check(p); at != (api.PtFault{}) || e != api.OK {
			t.Fatalf("Check of %v: %v, %d", p, at, e)
		}
		works := len(worksOf(p))
		for what, is := range map[string]bool{
			"all stitches": len(p.Stitches) == 40, "all units": len(p.Units) == 30, "all parts": len(p.Parts) == 100, "all pairs": p.Pairs == 24,
			"no stitches": len(p.Stitches) == 0, "no units": len(p.Units) == 0, "no parts": len(p.Parts) == 0, "two pairs": p.Pairs == 2,
			"many works": works > 300, "no works": works == 0, "some works": works > 0,
		} {
			if is {
				met[what]++
			}
		}
		for _, x := range p.Parts {
			met["kind "+string(rune('0'+x.Kind))]++
		}
	})
	if len(met) != 14 {
		t.Errorf("only %v", met)
	}
	for what, n := range met {
		if n < 10 {
			t.Errorf("%s: %d times", what, n)
		}
	}
}
