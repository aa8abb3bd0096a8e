package motifs_test

import (
	"slices"
	"testing"

	"torchon/api"
	"torchon/motifs"
	"torchon/sheet"
	"torchon/stitches"
	"torchon/traces"
)

// P9.6: places from 0 to the number of pairs less 2, words of at most 16 letters, at most 400 works: valid sheets of stitches.
func TestSheetsAreValid(t *testing.T) {
	longest, most := 0, 0
	for _, c := range valid() {
		s, e := motifs.Make(c.name, c.sizes)
		if e != api.OK || sheet.Check(s) != api.OK || len(s.Works) < 1 || len(s.Works) > 400 {
			t.Errorf("%v: %d works, %d", c, len(s.Works), e)
		}
		for _, w := range s.Works {
			if w.Kind != api.WkStitch || w.At < 0 || w.At > s.Pairs-2 || len(w.Word) > 16 {
				t.Errorf("%v: the work %v", c, w)
			}
			longest = max(longest, len(w.Word))
		}
		most = max(most, len(s.Works))
	}
	if longest != 16 || most != 400 {
		t.Errorf("the longest word has %d letters, and the longest sheet %d works", longest, most)
	}
}

// followed returns where the pairs of a sheet end (for each place, which pair is there), and how often two pairs pass through each other (the lesser one first).
func followed(t *testing.T, s api.Sheet) ([]int, map[[2]int]int) {
	line, meets := []int{}, map[[2]int]int{}
	for i := range s.Pairs {
		line = append(line, i)
	}
	for _, w := range s.Works {
		places, e := stitches.Places(w.Word)
		if e != api.OK {
			t.Fatalf("the word %s: %d", w.Word, e)
		}
		// The threads of a pair may change their places in it.
		slices.Sort(places[:2])
		switch a, b := line[w.At], line[w.At+1]; {
		case slices.Equal(places[:2], []int{3, 4}):
			line[w.At], line[w.At+1] = b, a
			meets[[2]int{min(a, b), max(a, b)}]++
		case !slices.Equal(places[:2], []int{1, 2}):
			t.Fatalf("%s mixes both pairs", w.Word)
		}
	}
	return line, meets
}

// sorted reports whether all pairs are where they began.
func sorted(line []int) bool { return slices.IsSorted(line) }

// meetings holds how often any two of some pairs pass through each other against what is wanted.
func meetings(t *testing.T, c call, pairs int, want func(a, b int) int) {
	t.Helper()
	s, e := motifs.Make(c.name, c.sizes)
	if e != api.OK || s.Pairs != pairs {
		t.Fatalf("%v: %d pairs, %d", c, s.Pairs, e)
	}
	line, meets := followed(t, s)
	if !sorted(line) {
		t.Errorf("%v: the pairs end as %v", c, line)
	}
	for b := range pairs {
		for a := range b {
			if got := meets[[2]int{a, b}]; got != want(a, b) {
				t.Errorf("%v: the pairs %d and %d pass %d times, want %d", c, a, b, got, want(a, b))
			}
		}
	}
}

// P9.5: each pair of the left of a spider passes through each one of the right twice, and ends where it began.
func TestSpiderPairs(t *testing.T) {
	for n := 1; n <= 6; n++ {
		for k := 0; k <= 16; k++ {
			meetings(t, call{"spider", []int{n, k}}, 2*n, func(a, b int) int {
				if a < n && b >= n {
					return 2
				}
				return 0
			})
		}
	}
}

// P9.5: the worker of a fan passes through the passive pair k 2 (2 (n - k) + 1) times.
func TestFanPairs(t *testing.T) {
	for n := 1; n <= 12; n++ {
		meetings(t, call{"fan", []int{n}}, n+1, func(a, b int) int {
			if a == 0 {
				return 2 * (2*(n-b) + 1)
			}
			return 0
		})
	}
}

// P9.5: the worker of a footside, which begins at the right, passes through each passive pair 2 m times.
func TestFootsidePairs(t *testing.T) {
	for n := 1; n <= 23; n++ {
		for m := 1; m*(2*n+1) <= 400; m++ {
			meetings(t, call{"footside", []int{n, m}}, n+1, func(a, b int) int {
				if b == n {
					return 2 * m
				}
				return 0
			})
		}
	}
}

// P9.5: the pairs of a windmill change sides.
func TestWindmillPairs(t *testing.T) {
	line, meets := followed(t, motifs.Windmill())
	if !slices.Equal(line, []int{2, 3, 0, 1}) {
		t.Errorf("the pairs end as %v", line)
	}
	for _, x := range [][2]int{{0, 2}, {0, 3}, {1, 2}, {1, 3}} {
		if meets[x] != 1 {
			t.Errorf("the pairs %v pass %d times", x, meets[x])
		}
	}
}

// joined returns the works of one sheet, and then those of another one with as many pairs.
func joined(a, b api.Sheet) api.Sheet {
	return api.Sheet{Pairs: a.Pairs, Works: slices.Concat(a.Works, b.Works)}
}

// P9.7: plaits one after the other are a plait.
func TestPlaitsAreJoined(t *testing.T) {
	for n := 1; n < 100; n++ {
		for m := 1; n+m <= 100; m++ {
			a, _ := motifs.Plait(n)
			b, _ := motifs.Plait(m)
			if c, e := motifs.Plait(n + m); e != api.OK || !equal(c, joined(a, b)) {
				t.Errorf("%d and %d half stitches", n, m)
			}
		}
	}
}

// P9.7: footsides with as many passive pairs, one after the other, are a footside.
func TestFootsidesAreJoined(t *testing.T) {
	for n := 1; n <= 23; n++ {
		most := 400 / (2*n + 1)
		for m := 1; m < most; m++ {
			for k := 1; m+k <= most; k++ {
				a, _ := motifs.Footside(n, m)
				b, _ := motifs.Footside(n, k)
				if c, e := motifs.Footside(n, m+k); e != api.OK || !equal(c, joined(a, b)) {
					t.Errorf("%d and %d rows on %d pairs", m, k, n)
				}
			}
		}
	}
}

// exchanged returns a sheet of which left and right are exchanged.
func exchanged(s api.Sheet) api.Sheet {
	r := api.Sheet{Pairs: s.Pairs}
	for _, w := range s.Works {
		w.At = s.Pairs - 2 - w.At
		r.Works = append(r.Works, w)
	}
	return r
}

// P9.7: spiders and windmills are the same lace from the other side; fans and footsides with several passive pairs are not, which shows that the question is one.
func TestExchanged(t *testing.T) {
	for _, c := range valid() {
		s, _ := motifs.Make(c.name, c.sizes)
		same, e := traces.Same(s, exchanged(s))
		want := s.Pairs == 2 || c.name == "spider" || c.name == "windmill"
		if e != api.OK || same != want {
			t.Errorf("%v: %v, %d", c, same, e)
		}
	}
}
