package braids_test

import (
	"math"
	"math/rand"
	"slices"
	"testing"

	"torchon/api"
	"torchon/braids"
)

// letters returns all letters of n strands.
func letters(n int) []int {
	var l []int
	for i := 1; i < n; i++ {
		l = append(l, i, -i)
	}
	return l
}

// everyWord calls with all words of n strands that have at most so many letters.
func everyWord(n, most int, call func(w []int)) {
	level := [][]int{nil}
	for range most + 1 {
		var next [][]int
		for _, w := range level {
			call(w)
			for _, letter := range letters(n) {
				next = append(next, append(slices.Clone(w), letter))
			}
		}
		level = next
	}
}

// someWord returns a word of n strands of so many letters, which depends on r alone.
func someWord(r *rand.Rand, n, long int) []int {
	w := make([]int, 0, long)
	for n > 1 && len(w) < long {
		w = append(w, letters(n)[r.Intn(2*n-2)])
	}
	return w
}

// join returns words one after the other.
func join(words ...[]int) []int { return slices.Concat(words...) }

// many returns so many times the same letter.
func many(letter, times int) []int { return slices.Repeat([]int{letter}, times) }

func TestEveryWordIsComplete(t *testing.T) {
	seen := 0
	everyWord(3, 4, func(w []int) { seen++ })
	if seen != 1+4+16+64+256 {
		t.Fatalf("%d words", seen)
	}
}

// broken are arguments that are no words, with the error of Check.
func broken() []struct {
	n int
	w []int
	e api.Errno
} {
	return []struct {
		n int
		w []int
		e api.Errno
	}{
		{0, nil, api.ErrArg},
		{-1, nil, api.ErrArg},
		{13, nil, api.ErrArg},
		{math.MinInt, nil, api.ErrArg},
		{math.MaxInt, nil, api.ErrArg},
		{13, []int{13}, api.ErrArg},
		{0, many(5, 401), api.ErrArg},
		{13, many(0, 401), api.ErrArg},
		{3, many(1, 401), api.ErrLong},
		{12, many(-11, 5000), api.ErrLong},
		{1, many(1, 401), api.ErrLong},
		{3, many(0, 401), api.ErrLong},
		{1, []int{1}, api.ErrRange},
		{1, []int{-1}, api.ErrRange},
		{1, []int{0}, api.ErrRange},
		{2, []int{2}, api.ErrRange},
		{2, []int{-2}, api.ErrRange},
		{3, []int{1, 2, 0}, api.ErrRange},
		{3, []int{3}, api.ErrRange},
		{3, []int{-3, 1}, api.ErrRange},
		{12, []int{11, -11, 12}, api.ErrRange},
		{12, []int{11, -12, 11}, api.ErrRange},
		{12, []int{math.MinInt}, api.ErrRange},
		{12, []int{math.MaxInt}, api.ErrRange},
		{3, join(many(1, 399), []int{3}), api.ErrRange},
	}
}

// P2.1: Check.
func TestCheck(t *testing.T) {
	for i, c := range broken() {
		if e := braids.Check(c.n, c.w); e != c.e {
			t.Errorf("%d: Check = %d, want %d", i, e, c.e)
		}
	}
	for n := 1; n <= 12; n++ {
		if e := braids.Check(n, letters(n)); e != api.OK {
			t.Errorf("Check of all letters of %d strands = %d", n, e)
		}
		if e := braids.Check(n, nil); e != api.OK {
			t.Errorf("Check of no letters of %d strands = %d", n, e)
		}
	}
	if e := braids.Check(12, many(-11, 400)); e != api.OK {
		t.Errorf("Check of 400 letters = %d", e)
	}
}

// zero returns whether a result is nothing but an error.
func zero(w []int, e, want api.Errno) bool { return len(w) == 0 && e == want }

// P2.1: all other functions return the error of Check first, of a and then of b, and nothing else.
func TestErrorsOfWords(t *testing.T) {
	for i, c := range broken() {
		fail := func(name string, ok bool) {
			if !ok {
				t.Errorf("%d: %s: not the error %d alone", i, name, c.e)
			}
		}
		w, e := braids.Inverse(c.n, c.w)
		fail("Inverse", zero(w, e, c.e))
		w, e = braids.Reduce(c.n, c.w)
		fail("Reduce", zero(w, e, c.e))
		w, e = braids.Perm(c.n, c.w)
		fail("Perm", zero(w, e, c.e))
		l, e := braids.Links(c.n, c.w)
		fail("Links", len(l) == 0 && e == c.e)
		for _, strand := range []int{0, -1, 99} {
			w, e = braids.Drop(c.n, c.w, strand)
			fail("Drop", zero(w, e, c.e))
			w, e = braids.Lay(c.n, c.w, strand, true)
			fail("Lay", zero(w, e, c.e))
		}
		p, f, e := braids.Normal(c.n, c.w)
		fail("Normal", p == 0 && len(f) == 0 && e == c.e)
		is, e := braids.Trivial(c.n, c.w)
		fail("Trivial", !is && e == c.e)
		w, e = braids.Times(c.n, c.w, nil)
		fail("Times", zero(w, e, c.e))
		w, e = braids.Times(c.n, nil, c.w)
		fail("Times", zero(w, e, c.e))
		is, e = braids.Same(c.n, c.w, nil)
		fail("Same", !is && e == c.e)
		is, e = braids.Same(c.n, nil, c.w)
		fail("Same", !is && e == c.e)
		is, e = braids.Same(c.n, c.w, c.w)
		fail("Same", !is && e == c.e)
	}
}

// P2.1: if both words have an error, that of the first one counts.
func TestErrorsOfBothWords(t *testing.T) {
	long, far := many(1, 401), []int{3}
	for i, c := range []struct {
		a, b []int
		want api.Errno
	}{{long, far, api.ErrLong}, {far, long, api.ErrRange}, {many(1, 400), far, api.ErrRange}, {many(1, 400), long, api.ErrLong}} {
		if w, e := braids.Times(3, c.a, c.b); !zero(w, e, c.want) {
			t.Errorf("%d: Times = %v, %d", i, w, e)
		}
		if is, e := braids.Same(3, c.a, c.b); is || e != c.want {
			t.Errorf("%d: Same = %v, %d", i, is, e)
		}
	}
}

// P2.2: Inverse.
func TestInverse(t *testing.T) {
	for i, c := range []struct {
		n       int
		w, want []int
	}{
		{1, nil, nil},
		{3, nil, nil},
		{2, []int{1}, []int{-1}},
		{4, []int{1, -2, 3}, []int{-3, 2, -1}},
		{3, []int{1, -1}, []int{1, -1}},
		{3, []int{1, 2, 1, 2}, []int{-2, -1, -2, -1}},
		{12, join(many(11, 399), []int{-1}), join([]int{1}, many(-11, 399))},
	} {
		if w, e := braids.Inverse(c.n, c.w); !slices.Equal(w, c.want) || e != api.OK {
			t.Errorf("%d: Inverse = %v, %d", i, w, e)
		}
	}
}

// P2.2: Times, up to 400 letters.
func TestTimes(t *testing.T) {
	for i, c := range []struct {
		n          int
		a, b, want []int
		e          api.Errno
	}{
		{1, nil, nil, nil, api.OK},
		{3, []int{1, 2}, nil, []int{1, 2}, api.OK},
		{3, nil, []int{1, 2}, []int{1, 2}, api.OK},
		{3, []int{1, 2}, []int{-2, -1}, []int{1, 2, -2, -1}, api.OK},
		{3, []int{1}, []int{2}, []int{1, 2}, api.OK},
		{3, []int{2}, []int{1}, []int{2, 1}, api.OK},
		{3, many(1, 200), many(2, 200), join(many(1, 200), many(2, 200)), api.OK},
		{3, many(1, 400), nil, many(1, 400), api.OK},
		{3, nil, many(1, 400), many(1, 400), api.OK},
		{3, many(1, 200), many(2, 201), nil, api.ErrLong},
		{3, many(1, 400), many(-1, 1), nil, api.ErrLong},
		{3, many(1, 1), many(-1, 400), nil, api.ErrLong},
		{3, many(1, 400), many(-1, 400), nil, api.ErrLong},
	} {
		if w, e := braids.Times(c.n, c.a, c.b); !slices.Equal(w, c.want) || e != c.e {
			t.Errorf("%d: Times = %v, %d", i, w, e)
		}
	}
}

// P2.2: Reduce.
func TestReduce(t *testing.T) {
	for i, c := range []struct {
		n       int
		w, want []int
	}{
		{1, nil, nil},
		{3, []int{1, 2, -2, -1, 2}, []int{2}},
		{3, []int{1, -1}, nil},
		{3, []int{-1, 1}, nil},
		{3, []int{1, -1, 1}, []int{1}},
		{3, []int{1, 1}, []int{1, 1}},
		{3, []int{1, 2, -1, -2}, []int{1, 2, -1, -2}},
		{4, []int{1, 3, -1}, []int{1, 3, -1}},
		{3, join(many(1, 200), many(-1, 200)), nil},
		{3, join(many(-2, 199), many(2, 200)), []int{2}},
		{3, many(2, 400), many(2, 400)},
	} {
		if w, e := braids.Reduce(c.n, c.w); !slices.Equal(w, c.want) || e != api.OK {
			t.Errorf("%d: Reduce = %v, %d", i, w, e)
		}
	}
}

// reduceAnyhow takes neighbours out wherever r says, until there are none.
func reduceAnyhow(r *rand.Rand, w []int) []int {
	w = slices.Clone(w)
	for {
		var places []int
		for i := 1; i < len(w); i++ {
			if w[i-1] == -w[i] {
				places = append(places, i-1)
			}
		}
		if len(places) == 0 {
			return w
		}
		at := places[r.Intn(len(places))]
		w = slices.Delete(w, at, at+2)
	}
}

// P2.2: whatever is taken out first, the same is left.
func TestReduceInAnyOrder(t *testing.T) {
	r := rand.New(rand.NewSource(1))
	check := func(n int, w []int) {
		got, e := braids.Reduce(n, w)
		if want := reduceAnyhow(r, w); !slices.Equal(got, want) || e != api.OK {
			t.Fatalf("Reduce(%d, %v) = %v, %d, want %v", n, w, got, e, want)
		}
	}
	everyWord(3, 6, func(w []int) { check(3, w) })
	for range 100 {
		check(2, someWord(r, 2, r.Intn(401)))
		check(4, someWord(r, 4, r.Intn(401)))
	}
}
