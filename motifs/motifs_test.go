package motifs_test

import (
	"math"
	"slices"
	"strings"
	"testing"

	"torchon/api"
	"torchon/motifs"
)

// compared holds the function of a motif against the judge, and that it returns an error alone.
func compared(t *testing.T, c call, want api.Errno) {
	t.Helper()
	got, e := direct(c)
	s, wanted := judge(c.name, c.sizes)
	if wanted != want {
		t.Fatalf("%v: the judge says %d, not %d", c, wanted, want)
	}
	if e != want || !equal(got, s) {
		t.Errorf("%v: %v, %d, want %v, %d", c, got, e, s, want)
	}
	if e != api.OK && !isZero(got) {
		t.Errorf("%v: %v with the error %d", c, got, e)
	}
}

// outside returns numbers that are below a least one, or above a greatest one.
func outside(least, most int) []int {
	return []int{least - 1, most + 1, least - 2, most + 2, -least - 1, 2*most + 1, 1 << 32, -1 << 32, math.MaxInt, math.MinInt, math.MaxInt - 1}
}

// P9.1: the sheets of plaits, from 1 to 100 half stitches.
func TestPlait(t *testing.T) {
	for n := 1; n <= 100; n++ {
		compared(t, call{"plait", []int{n}}, api.OK)
	}
	for _, n := range outside(1, 100) {
		compared(t, call{"plait", []int{n}}, api.ErrRange)
	}
}

// P9.1: the sheets of picots, from 1 to 7 twists.
func TestPicot(t *testing.T) {
	for n := 1; n <= 7; n++ {
		compared(t, call{"picot", []int{n}}, api.OK)
	}
	for _, n := range outside(1, 7) {
		compared(t, call{"picot", []int{n}}, api.ErrRange)
	}
}

// P9.2: the sheets of spiders, from 1 to 6 legs and from 0 to 16 twists.
func TestSpider(t *testing.T) {
	for n := 1; n <= 6; n++ {
		for k := 0; k <= 16; k++ {
			compared(t, call{"spider", []int{n, k}}, api.OK)
		}
		for _, k := range outside(0, 16) {
			compared(t, call{"spider", []int{n, k}}, api.ErrRange)
		}
	}
	for _, n := range outside(1, 6) {
		for _, k := range append(outside(0, 16), 0, 1, 16) {
			compared(t, call{"spider", []int{n, k}}, api.ErrRange)
		}
	}
}

// P9.2: the sheets of fans, from 1 to 12 passive pairs.
func TestFan(t *testing.T) {
	for n := 1; n <= 12; n++ {
		compared(t, call{"fan", []int{n}}, api.OK)
	}
	for _, n := range outside(1, 12) {
		compared(t, call{"fan", []int{n}}, api.ErrRange)
	}
}

// P9.3: the sheets of footsides, from 1 to 23 passive pairs and with up to 400 works; the range is looked at before the number of works.
func TestFootside(t *testing.T) {
	for n := 1; n <= 23; n++ {
		most := 400 / (2*n + 1)
		for m := 1; m <= most; m++ {
			compared(t, call{"footside", []int{n, m}}, api.OK)
		}
		for _, m := range []int{most + 1, most + 2, 401, 1 << 31, 1 << 32, 1 << 62, math.MaxInt, math.MaxInt/(2*n+1) + 1, math.MaxInt/(2*n+1)*2 + 2} {
			compared(t, call{"footside", []int{n, m}}, api.ErrLong)
		}
		for _, m := range []int{0, -1, -2, math.MinInt} {
			compared(t, call{"footside", []int{n, m}}, api.ErrRange)
		}
	}
	for _, n := range outside(1, 23) {
		for _, m := range []int{1, 8, 9, 400, math.MaxInt, 0, -1, math.MinInt} {
			compared(t, call{"footside", []int{n, m}}, api.ErrRange)
		}
	}
}

// P9.3: how many works the footsides next to the limit have.
func TestFootsideLimit(t *testing.T) {
	for _, x := range []struct {
		n, m, works int
		e           api.Errno
	}{
		{2, 80, 400, api.OK}, {12, 16, 400, api.OK}, {1, 133, 399, api.OK}, {9, 21, 399, api.OK}, {23, 8, 376, api.OK}, {5, 36, 396, api.OK},
		{1, 134, 0, api.ErrLong}, {2, 81, 0, api.ErrLong}, {12, 17, 0, api.ErrLong}, {23, 9, 0, api.ErrLong}, {5, 37, 0, api.ErrLong},
	} {
		if s, e := motifs.Footside(x.n, x.m); len(s.Works) != x.works || e != x.e {
			t.Errorf("Footside(%d, %d): %d works, %d", x.n, x.m, len(s.Works), e)
		}
	}
}

// P9.3: the windmill.
func TestWindmill(t *testing.T) {
	if got := motifs.Windmill(); !equal(got, stitchesOf(4, "CTC@1 CTC@0 CTC@2 P@1 CTC@1")) {
		t.Errorf("Windmill: %v", got)
	}
}

// P9.1 to P9.4: the examples of the chapter, and some sheets that are written out.
func TestExamples(t *testing.T) {
	for _, x := range []struct {
		c    call
		want api.Sheet
		e    api.Errno
	}{
		{call{"plait", []int{2}}, stitchesOf(2, "CT@0 CT@0"), api.OK},
		{call{"picot", []int{3}}, stitchesOf(2, "LLLPLLL@0"), api.OK},
		{call{"spider", []int{1, 2}}, stitchesOf(2, "TT@0 CTC@0 P@0 CTC@0 TT@0"), api.OK},
		{call{"spider", []int{2, 0}}, stitchesOf(4, "CTC@1 CTC@2 CTC@0 CTC@1 P@1 CTC@1 CTC@2 CTC@0 CTC@1"), api.OK},
		{call{"fan", []int{2}}, stitchesOf(3, "CTC@0 RP@0 CTC@0 CTC@0 CTC@1 RP@1 CTC@1 CTC@0 CTC@0 RP@0 CTC@0"), api.OK},
		{call{"footside", []int{1, 2}}, stitchesOf(2, "CTC@0 LLP@0 CTC@0 CTC@0 LLP@0 CTC@0"), api.OK},
		{call{"footside", []int{23, 9}}, api.Sheet{}, api.ErrLong},
		{call{"footside", []int{5, 37}}, api.Sheet{}, api.ErrLong},
		{call{"spider", []int{2}}, api.Sheet{}, api.ErrArg},
		{call{"star", nil}, api.Sheet{}, api.ErrNone},
		{call{"fan", []int{13}}, api.Sheet{}, api.ErrRange},
		{call{"spider", []int{3, 1}}, stitchesOf(6, "T@0 T@2 T@4 CTC@2 CTC@3 CTC@4 CTC@1 CTC@2 CTC@3 CTC@0 CTC@1 CTC@2 P@2 CTC@2 CTC@3 CTC@4 CTC@1 CTC@2 CTC@3 CTC@0 CTC@1 CTC@2 T@0 T@2 T@4"), api.OK},
		{call{"fan", []int{3}}, stitchesOf(4, "CTC@0 RP@0 CTC@0 CTC@0 CTC@1 RP@1 CTC@1 CTC@0 CTC@0 CTC@1 CTC@2 RP@2 CTC@2 CTC@1 CTC@0 CTC@0 CTC@1 RP@1 CTC@1 CTC@0 CTC@0 RP@0 CTC@0"), api.OK},
		{call{"footside", []int{3, 1}}, stitchesOf(4, "CTC@2 CTC@1 CTC@0 LLP@0 CTC@0 CTC@1 CTC@2"), api.OK},
	} {
		if s, e := motifs.Make(x.c.name, x.c.sizes); !equal(s, x.want) || e != x.e {
			t.Errorf("Make(%v): %v, %d, want %v, %d", x.c, s, e, x.want, x.e)
		}
	}
	if n, e := motifs.Width("footside", []int{3, 1}); n != 4 || e != api.OK {
		t.Errorf("Width of footside: %d, %d", n, e)
	}
}

// P9.4: the names, in the order of the definitions.
func TestNames(t *testing.T) {
	if got := motifs.Names(); !slices.Equal(got, []string{"plait", "picot", "spider", "fan", "footside", "windmill"}) {
		t.Errorf("Names: %v", got)
	}
}

// made holds Make and Width against the judge.
func made(t *testing.T, c call) api.Errno {
	t.Helper()
	want, e := judge(c.name, c.sizes)
	got, err := motifs.Make(c.name, c.sizes)
	if !equal(got, want) || err != e {
		t.Errorf("Make(%v): %v, %d, want %v, %d", c, got, err, want, e)
	}
	if n, err := motifs.Width(c.name, c.sizes); n != want.Pairs || err != e {
		t.Errorf("Width(%v): %d, %d, want %d, %d", c, n, err, want.Pairs, e)
	}
	return e
}

// P9.4: Make and Width of all motifs that there are.
func TestMake(t *testing.T) {
	for _, c := range valid() {
		if e := made(t, c); e != api.OK {
			t.Errorf("%v: %d", c, e)
		}
	}
}

// P9.4: a name that there is not, then another number of sizes, and then what the function returns.
func TestMakeErrors(t *testing.T) {
	lists := [][]int{nil, {}, {1}, {0}, {-1}, {7}, {8}, {100}, {101}, {12}, {13}, {1, 1}, {0, 0}, {6, 16}, {6, 17}, {7, 16}, {23, 8}, {23, 9}, {24, 9}, {1, 0}, {1, -1}, {1, math.MaxInt}, {math.MinInt, math.MaxInt}, {1, 1, 1}, {0, 0, 0}, make([]int, 100)}
	seen := map[api.Errno]int{}
	for _, sizes := range lists {
		for _, name := range motifs.Names() {
			seen[made(t, call{name, sizes})]++
		}
		for _, name := range []string{"", "star", "Fan", "FAN", "fan ", " fan", "fan\x00", "plaits", "plai", "\xff", "wind mill", strings.Repeat("fan", 100000)} {
			if e := made(t, call{name, sizes}); e != api.ErrNone {
				t.Errorf("%.20q, %v: %d", name, sizes, e)
			}
		}
	}
	for _, e := range []api.Errno{api.OK, api.ErrArg, api.ErrRange, api.ErrLong} {
		if seen[e] < 2 {
			t.Errorf("%d is returned %d times", e, seen[e])
		}
	}
}
