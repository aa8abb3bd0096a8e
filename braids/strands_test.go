package braids_test

import (
	"math"
	"math/rand"
	"slices"
	"testing"

	"torchon/api"
	"torchon/braids"
)

// magnitude returns a letter without its sign.
func magnitude(letter int) int {
	if letter < 0 {
		return -letter
	}
	return letter
}

// signOf returns 1 or -1.
func signOf(letter int) int { return letter / magnitude(letter) }

// track follows a strand from a place through a word, and returns its places before each letter and at the end.
func track(w []int, place int) []int {
	places := []int{place}
	for _, letter := range w {
		switch magnitude(letter) {
		case place:
			place--
		case place + 1:
			place++
		}
		places = append(places, place)
	}
	return places
}

// eachWord calls with all short words, and with some long ones.
func eachWord(call func(n int, w []int)) {
	call(1, nil)
	everyWord(2, 6, func(w []int) { call(2, w) })
	everyWord(3, 5, func(w []int) { call(3, w) })
	everyWord(4, 4, func(w []int) { call(4, w) })
	r := rand.New(rand.NewSource(2))
	for n := 2; n <= 12; n++ {
		for range 5 {
			call(n, someWord(r, n, r.Intn(401)))
		}
	}
}

// P2.3: the examples.
func TestPermAndLinks(t *testing.T) {
	for i, c := range []struct {
		n       int
		w, want []int
	}{{3, []int{1, 2}, []int{2, 0, 1}}, {3, []int{-1, -2}, []int{2, 0, 1}}, {1, nil, []int{0}}, {4, nil, []int{0, 1, 2, 3}}, {3, []int{2, 1}, []int{1, 2, 0}}} {
		if p, e := braids.Perm(c.n, c.w); !slices.Equal(p, c.want) || e != api.OK {
			t.Errorf("%d: Perm = %v, %d", i, p, e)
		}
	}
	for i, c := range []struct {
		n    int
		w    []int
		want [][]int
	}{
		{2, []int{1, 1}, [][]int{{0, 2}, {2, 0}}},
		{2, []int{1, -1}, [][]int{{0, 0}, {0, 0}}},
		{1, nil, [][]int{{0}}},
		{3, []int{1, 2, -1}, [][]int{{0, 1, 1}, {1, 0, -1}, {1, -1, 0}}},
		{2, many(-1, 400), [][]int{{0, -400}, {-400, 0}}},
	} {
		if l, e := braids.Links(c.n, c.w); !slices.EqualFunc(l, c.want, slices.Equal[[]int]) || e != api.OK {
			t.Errorf("%d: Links = %v, %d", i, l, e)
		}
	}
}

// P2.3: Perm and Links, strand by strand.
func TestPermAndLinksOfWords(t *testing.T) {
	eachWord(func(n int, w []int) {
		p, e := braids.Perm(n, w)
		l, f := braids.Links(n, w)
		if e != api.OK || f != api.OK || len(p) != n || len(l) != n {
			t.Fatalf("%d strands, %v: %v, %d, %v, %d", n, w, p, e, l, f)
		}
		for a := range n {
			ways := track(w, a)
			if p[a] != ways[len(w)] || len(l[a]) != n {
				t.Fatalf("Perm(%d, %v) = %v", n, w, p)
			}
			for b := range n {
				want := 0
				for i, other := range track(w, b)[:len(w)] {
					if low := min(ways[i], other); max(ways[i], other) == low+1 && magnitude(w[i]) == low+1 {
						want += signOf(w[i])
					}
				}
				if l[a][b] != want {
					t.Fatalf("Links(%d, %v) = %v, want %d at %d %d", n, w, l, want, a, b)
				}
			}
		}
	})
}

// P2.4: the examples, and errors: of the word, then of the strand, then of too few strands.
func TestDrop(t *testing.T) {
	for i, c := range []struct {
		n      int
		w      []int
		strand int
		want   []int
		e      api.Errno
	}{
		{3, []int{1, 2, 1}, 0, []int{1}, api.OK},
		{3, []int{1, 2, 1}, 1, []int{1}, api.OK},
		{3, []int{1, 2, 1}, 2, []int{1}, api.OK},
		{4, []int{-3, 2, 1}, 0, []int{-2, 1}, api.OK},
		{4, []int{-3, 3}, 0, []int{-2, 2}, api.OK},
		{4, []int{1, -1}, 3, []int{1, -1}, api.OK},
		{2, []int{1, -1, 1}, 1, nil, api.OK},
		{2, nil, 0, nil, api.OK},
		{3, nil, 3, nil, api.ErrRange},
		{3, nil, -1, nil, api.ErrRange},
		{3, nil, math.MinInt, nil, api.ErrRange},
		{3, nil, math.MaxInt, nil, api.ErrRange},
		{1, nil, 0, nil, api.ErrArg},
		{1, nil, 1, nil, api.ErrRange},
		{1, nil, -1, nil, api.ErrRange},
	} {
		if w, e := braids.Drop(c.n, c.w, c.strand); !slices.Equal(w, c.want) || e != c.e {
			t.Errorf("%d: Drop = %v, %d", i, w, e)
		}
	}
}

// others is what the other strands do: who crosses whom is taken from the line of all of them, without the strand.
func others(n int, w []int, strand int) []int {
	var line, word []int
	for s := range n {
		line = append(line, s)
	}
	for _, letter := range w {
		at := magnitude(letter)
		left, right := line[at-1], line[at]
		if left != strand && right != strand {
			rest := slices.DeleteFunc(slices.Clone(line), func(s int) bool { return s == strand })
			word = append(word, signOf(letter)*(slices.Index(rest, left)+1))
		}
		line[at-1], line[at] = right, left
	}
	return word
}

// P2.4: Drop is what the other strands do.
func TestDropOfWords(t *testing.T) {
	eachWord(func(n int, w []int) {
		for strand := 0; n > 1 && strand < n; strand++ {
			if got, e := braids.Drop(n, w, strand); !slices.Equal(got, others(n, w, strand)) || e != api.OK {
				t.Fatalf("Drop(%d, %v, %d) = %v, %d", n, w, strand, got, e)
			}
		}
	})
}

// P2.4: the examples, and errors.
func TestLay(t *testing.T) {
	for i, c := range []struct {
		n      int
		w      []int
		strand int
		above  bool
		want   []int
		e      api.Errno
	}{
		{2, []int{1}, 0, false, []int{-1}, api.OK},
		{2, []int{-1}, 0, true, []int{1}, api.OK},
		{2, []int{1}, 1, true, []int{-1}, api.OK},
		{2, []int{1}, 1, false, []int{1}, api.OK},
		{3, []int{1}, 0, true, []int{1, 2, -2}, api.OK},
		{3, []int{1}, 0, false, []int{-1, -2, 2}, api.OK},
		{4, []int{-3, 2, 1}, 0, true, []int{1, 2, 3, -2, 1, -3, -2}, api.OK},
		{4, nil, 3, true, nil, api.OK},
		{4, nil, 2, true, []int{3, -3}, api.OK},
		{1, nil, 0, true, nil, api.OK},
		{1, nil, 0, false, nil, api.OK},
		{1, nil, 1, true, nil, api.ErrRange},
		{3, nil, 3, true, nil, api.ErrRange},
		{3, nil, -1, false, nil, api.ErrRange},
		{3, nil, math.MinInt, false, nil, api.ErrRange},
		{3, many(1, 400), 3, false, nil, api.ErrRange},
	} {
		if w, e := braids.Lay(c.n, c.w, c.strand, c.above); !slices.Equal(w, c.want) || e != c.e {
			t.Errorf("%d: Lay = %v, %d", i, w, e)
		}
	}
}

// P2.4: Lay may become too long: with the way there, with the way back, or with both.
func TestLayLimit(t *testing.T) {
	for i, c := range []struct {
		n      int
		w      []int
		strand int
		want   int // letters; 0: too long
	}{
		{12, many(1, 400), 11, 400},
		{12, many(1, 378), 2, 396},
		{12, many(1, 382), 2, 400},
		{12, many(1, 383), 2, 0},
		{12, many(1, 400), 10, 0},
		{12, many(3, 378), 0, 400},
		{12, many(3, 379), 0, 0},
		{12, many(3, 400), 0, 0},
		{3, join([]int{1}, many(2, 399)), 1, 0},
		{3, join([]int{1}, many(2, 397)), 1, 400},
		{3, join(many(2, 399), []int{1}), 2, 2},
		{3, join([]int{2}, many(1, 399)), 1, 400},
		{3, join([]int{2}, many(1, 398)), 1, 399},
		{2, many(1, 400), 0, 2},
		{2, many(1, 399), 0, 1},
	} {
		for _, above := range []bool{true, false} {
			w, e := braids.Lay(c.n, c.w, c.strand, above)
			if c.want > 0 && (len(w) != c.want || e != api.OK) || c.want == 0 && !zero(w, e, api.ErrLong) {
				t.Errorf("%d: Lay = %d letters, %d", i, len(w), e)
			}
		}
	}
}

// layOf is the word in which the strand crosses all others on one side, letter by letter.
func layOf(n int, w []int, strand int, above bool) []int {
	var word []int
	over := map[bool]int{true: 1, false: -1}[above]
	for place := strand; place < n-1; place++ {
		word = append(word, over*(place+1))
	}
	word = append(word, others(n, w, strand)...)
	for place := n - 1; place > track(w, strand)[len(w)]; place-- {
		word = append(word, -over*place)
	}
	return word
}

// P2.4: Lay of words: the strand crosses above (or below) all others, and each strand ends where it ended.
func TestLayOfWords(t *testing.T) {
	eachWord(func(n int, w []int) {
		for strand := range n {
			for _, above := range []bool{true, false} {
				got, e := braids.Lay(n, w, strand, above)
				want := layOf(n, w, strand, above)
				if len(want) > 400 {
					if !zero(got, e, api.ErrLong) {
						t.Fatalf("Lay(%d, %v, %d) = %v, %d", n, w, strand, got, e)
					}
					continue
				}
				before, _ := braids.Perm(n, w)
				after, _ := braids.Perm(n, got)
				if !slices.Equal(got, want) || e != api.OK || !slices.Equal(before, after) {
					t.Fatalf("Lay(%d, %v, %d, %v) = %v, %d", n, w, strand, above, got, e)
				}
				for i, place := range track(got, strand)[:len(got)] {
					at := magnitude(got[i])
					if left := place == at-1; (left || place == at) && (left == (got[i] > 0)) != above {
						t.Fatalf("Lay(%d, %v, %d, %v) = %v: letter %d is on the other side", n, w, strand, above, got, i)
					}
				}
			}
		}
	})
}
