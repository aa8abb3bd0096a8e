package braids_test

import (
	"math"
	"math/rand"
	"slices"
	"testing"

	"torchon/api"
	"torchon/braids"
)

// everyPerm returns all permutations of n numbers.
func everyPerm(n int) [][]int {
	if n == 0 {
		return [][]int{nil}
	}
	var l [][]int
	for _, p := range everyPerm(n - 1) {
		for at := range n {
			l = append(l, slices.Insert(slices.Clone(p), at, n-1))
		}
	}
	return l
}

// reversed returns the permutation of delta, and straight the one without crossings.
func reversed(n int) []int {
	p := straight(n)
	slices.Reverse(p)
	return p
}

func straight(n int) []int {
	p := make([]int, n)
	for a := range p {
		p[a] = a
	}
	return p
}

// beginsWith and endsWith are read from the definition.
func beginsWith(p []int, i int) bool { return p[i-1] > p[i] }

func endsWith(p []int, i int) bool { return slices.Index(p, i-1) > slices.Index(p, i) }

// checkForm checks that a normal form is one.
func checkForm(t *testing.T, n int, w []int, power int, factors [][]int) {
	t.Helper()
	if n == 1 && power != 0 {
		t.Fatalf("Normal(1, %v): power %d", w, power)
	}
	for k, p := range factors {
		if sorted := slices.Sorted(slices.Values(p)); !slices.Equal(sorted, straight(n)) {
			t.Fatalf("Normal(%d, %v): factor %v", n, w, p)
		}
		if slices.Equal(p, straight(n)) || slices.Equal(p, reversed(n)) {
			t.Fatalf("Normal(%d, %v): factor %v", n, w, p)
		}
		for i := 1; i < n && k > 0; i++ {
			if beginsWith(p, i) && !endsWith(factors[k-1], i) {
				t.Fatalf("Normal(%d, %v): the factor %d of %v begins with %d", n, w, k, factors, i)
			}
		}
	}
}

// normal returns the normal form, which is checked.
func normal(t *testing.T, n int, w []int) (int, [][]int) {
	t.Helper()
	power, factors, e := braids.Normal(n, w)
	if e != api.OK {
		t.Fatalf("Normal(%d, %v) = %d", n, w, e)
	}
	checkForm(t, n, w, power, factors)
	return power, factors
}

// same returns whether two words are the same braid; Same and Normal must agree.
func same(t *testing.T, n int, a, b []int) bool {
	t.Helper()
	is, e := braids.Same(n, a, b)
	p, f := normal(t, n, a)
	q, g := normal(t, n, b)
	if equal := p == q && slices.EqualFunc(f, g, slices.Equal[[]int]); e != api.OK || is != equal {
		t.Fatalf("Same(%d, %v, %v) = %v, %d, but the normal forms say %v", n, a, b, is, e, equal)
	}
	return is
}

// P2.5: the examples, and small forms.
func TestNormal(t *testing.T) {
	for i, c := range []struct {
		n       int
		w       []int
		power   int
		factors [][]int
	}{
		{1, nil, 0, nil},
		{3, nil, 0, nil},
		{3, []int{1, 2, 1}, 1, nil},
		{3, []int{2, 1, 2}, 1, nil},
		{3, []int{1, 1}, 0, [][]int{{1, 0, 2}, {1, 0, 2}}},
		{3, []int{-1}, -1, [][]int{{2, 0, 1}}},
		{3, []int{-2}, -1, [][]int{{1, 2, 0}}},
		{3, []int{1, -1}, 0, nil},
		{3, []int{-1, -2, -1}, -1, nil},
		{3, []int{1, 2, 2}, 0, [][]int{{2, 0, 1}, {0, 2, 1}}},
		{3, []int{1, 2, 1, 2}, 1, [][]int{{0, 2, 1}}},
		{3, []int{2, 1, 1, 2, 1}, 1, [][]int{{2, 0, 1}}},
		{2, many(1, 400), 400, nil},
		{2, many(-1, 400), -400, nil},
		{2, join(many(1, 150), many(-1, 150)), 0, nil},
		{3, many(1, 400), 0, slices.Repeat([][]int{{1, 0, 2}}, 400)},
	} {
		power, factors := normal(t, c.n, c.w)
		if power != c.power || !slices.EqualFunc(factors, c.factors, slices.Equal[[]int]) {
			t.Errorf("%d: Normal = %d, %v", i, power, factors)
		}
	}
}

// P2.5: a simple braid is its own form, and delta is a power.
func TestNormalOfSimple(t *testing.T) {
	for n := 1; n <= 5; n++ {
		for _, p := range everyPerm(n) {
			w, e := braids.Word(n, 0, [][]int{p})
			power, factors := normal(t, n, w)
			want, factor := 0, [][]int{p}
			if slices.Equal(p, reversed(n)) && n > 1 {
				want = 1
			}
			if slices.Equal(p, reversed(n)) || slices.Equal(p, straight(n)) {
				factor = nil
			}
			if e != api.OK || power != want || !slices.EqualFunc(factors, factor, slices.Equal[[]int]) {
				t.Fatalf("Normal of Word(%d, %v) = %v: %d, %v", n, p, w, power, factors)
			}
		}
	}
}

// leastBySearch returns for each permutation of n numbers the least one of its shortest words, of all words without negative letters, which come in the order of their lengths and then as lists.
func leastBySearch(n int) map[[4]int][]int {
	found := map[[4]int][]int{}
	level := [][]int{{}}
	for range n*(n-1)/2 + 1 {
		var next [][]int
		for _, w := range level {
			var key [4]int
			for a := range n {
				key[a] = track(w, a)[len(w)]
			}
			if _, ok := found[key]; !ok {
				found[key] = w
			}
			for i := 1; i < n; i++ {
				next = append(next, append(slices.Clone(w), i))
			}
		}
		level = next
	}
	return found
}

// P2.6: the least words of all simple braids of at most 4 strands.
func TestLeastWords(t *testing.T) {
	for n := 1; n <= 4; n++ {
		found := leastBySearch(n)
		if len(found) != len(everyPerm(n)) {
			t.Fatalf("%d permutations of %d numbers", len(found), n)
		}
		for key, want := range found {
			if w, e := braids.Word(n, 0, [][]int{key[:n]}); !slices.Equal(w, want) || e != api.OK {
				t.Errorf("Word(%d, 0, %v) = %v, %d, want %v", n, key, w, e, want)
			}
		}
	}
}

// P2.6: the least word of delta of 12 strands, which is known.
func TestLeastWordOfDelta(t *testing.T) {
	var want []int
	for most := 1; most < 12; most++ {
		for i := most; i > 0; i-- {
			want = append(want, i)
		}
	}
	if w, e := braids.Word(12, 1, nil); !slices.Equal(w, want) || e != api.OK {
		t.Errorf("Word(12, 1, none) = %v, %d", w, e)
	}
	if w, e := braids.Word(12, 0, [][]int{reversed(12)}); !slices.Equal(w, want) || e != api.OK {
		t.Errorf("Word(12, 0, delta) = %v, %d", w, e)
	}
}

// P2.6: powers, and errors: of n, then of any factor, then of the length.
func TestWord(t *testing.T) {
	once, nothing := []int{1, 0, 2}, []int{0, 1, 2}
	for i, c := range []struct {
		n, power int
		factors  [][]int
		want     []int
		e        api.Errno
	}{
		{3, 0, nil, nil, api.OK},
		{3, 1, [][]int{once}, []int{1, 2, 1, 1}, api.OK},
		{3, 2, nil, []int{1, 2, 1, 1, 2, 1}, api.OK},
		{3, -1, [][]int{{2, 0, 1}}, []int{-1, -2, -1, 1, 2}, api.OK},
		{3, -2, nil, []int{-1, -2, -1, -1, -2, -1}, api.OK},
		{4, -1, nil, []int{-1, -2, -3, -1, -2, -1}, api.OK},
		{3, 0, [][]int{{2, 1, 0}}, []int{1, 2, 1}, api.OK},
		{3, 0, [][]int{nothing, once, nothing}, []int{1}, api.OK},
		{2, -1, [][]int{{1, 0}}, []int{-1, 1}, api.OK},
		{1, 5, [][]int{{0}, {0}}, nil, api.OK},
		{1, math.MaxInt, nil, nil, api.OK},
		{1, math.MinInt, nil, nil, api.OK},
		{0, 0, nil, nil, api.ErrArg},
		{13, 0, nil, nil, api.ErrArg},
		{-1, 0, [][]int{{0}}, nil, api.ErrArg},
		{math.MaxInt, 1, nil, nil, api.ErrArg},
		{math.MinInt, 1, nil, nil, api.ErrArg},
		{13, 1000, [][]int{nil}, nil, api.ErrArg},
		{3, 0, [][]int{{2, 1, 1}}, nil, api.ErrForm},
		{3, 0, [][]int{{0, 1, 3}}, nil, api.ErrForm},
		{3, 0, [][]int{{0, 1, -1}}, nil, api.ErrForm},
		{3, 0, [][]int{{1, 2, 3}}, nil, api.ErrForm},
		{3, 0, [][]int{{0, 1, math.MinInt}}, nil, api.ErrForm},
		{3, 0, [][]int{{0, math.MaxInt, 1}}, nil, api.ErrForm},
		{3, 0, [][]int{{1, 0}}, nil, api.ErrForm},
		{3, 0, [][]int{{1, 0, 2, 3}}, nil, api.ErrForm},
		{3, 0, [][]int{nil}, nil, api.ErrForm},
		{1, 0, [][]int{{1}}, nil, api.ErrForm},
		{12, 0, [][]int{straight(13)}, nil, api.ErrForm},
		{3, 0, [][]int{once, {1, 1, 2}}, nil, api.ErrForm},
		{3, 134, [][]int{once, {1, 1, 2}}, nil, api.ErrForm},
		{3, math.MinInt, [][]int{{1, 1, 2}}, nil, api.ErrForm},
		{3, 0, append(slices.Repeat([][]int{once}, 500), nil), nil, api.ErrForm},
	} {
		if w, e := braids.Word(c.n, c.power, c.factors); !slices.Equal(w, c.want) || e != c.e {
			t.Errorf("%d: Word = %v, %d", i, w, e)
		}
	}
}

// P2.6: words of 400 letters, and of more.
func TestWordLimit(t *testing.T) {
	once, twice := []int{1, 0, 2}, []int{2, 0, 1}
	for i, c := range []struct {
		n, power int
		factors  [][]int
		want     int // letters; -1: too long
	}{
		{3, 133, nil, 399},
		{3, -133, nil, 399},
		{3, 134, nil, -1},
		{3, -134, nil, -1},
		{3, 133, [][]int{once}, 400},
		{3, -133, [][]int{once}, 400},
		{3, 133, [][]int{twice}, -1},
		{3, 133, [][]int{once, once}, -1},
		{3, 0, slices.Repeat([][]int{twice}, 200), 400},
		{3, 0, slices.Repeat([][]int{twice}, 201), -1},
		{3, 1, slices.Repeat([][]int{once}, 397), 400},
		{3, -1, slices.Repeat([][]int{once}, 398), -1},
		{3, 0, append(slices.Repeat([][]int{{0, 1, 2}}, 1000), once), 1},
		{2, 400, nil, 400},
		{2, -400, nil, 400},
		{2, 401, nil, -1},
		{2, -401, nil, -1},
		{2, 0, slices.Repeat([][]int{{1, 0}}, 401), -1},
		{2, math.MaxInt, nil, -1},
		{2, math.MinInt, nil, -1},
		{12, math.MaxInt, nil, -1},
		{12, math.MinInt, nil, -1},
		{3, math.MaxInt/3 + 1, nil, -1},
		{3, math.MinInt/3 - 1, nil, -1},
		{5, 1 << 62, nil, -1},
		{9, 1 << 32, nil, -1},
		{12, 6, nil, 396},
		{12, 7, nil, -1},
	} {
		w, e := braids.Word(c.n, c.power, c.factors)
		if c.want >= 0 && (len(w) != c.want || e != api.OK) || c.want < 0 && !zero(w, e, api.ErrLong) {
			t.Errorf("%d: Word = %d letters, %d", i, len(w), e)
		}
	}
}

// P2.7: the examples.
func TestSame(t *testing.T) {
	for i, c := range []struct {
		n    int
		a, b []int
		want bool
	}{
		{1, nil, nil, true},
		{3, nil, nil, true},
		{3, []int{1, 2, 1}, []int{2, 1, 2}, true},
		{3, []int{1, 2}, []int{2, 1}, false},
		{3, []int{1}, []int{-1}, false},
		{3, []int{1}, []int{2}, false},
		{3, []int{1}, nil, false},
		{3, nil, []int{1, 1, -1, -1}, true},
		{4, []int{1, -3}, []int{-3, 1}, true},
		{3, []int{-1, 2, 1}, []int{2, 1, -2}, true},
		{3, []int{1, -2, 1}, []int{-2, 1, -2}, false},
		{3, []int{1, 2, 1}, []int{1, 2, 1, 1, 2, 1}, false},
		{2, many(1, 400), join(many(1, 400)), true},
		{2, many(1, 400), many(1, 399), false},
		{2, many(1, 400), many(-1, 400), false},
		{3, many(1, 400), many(1, 400), true},
		{3, many(1, 400), join(many(1, 399), []int{2}), false},
	} {
		if got := same(t, c.n, c.a, c.b); got != c.want {
			t.Errorf("%d: Same = %v", i, got)
		}
		if got := same(t, c.n, c.b, c.a); got != c.want {
			t.Errorf("%d: Same the other way round = %v", i, got)
		}
	}
}

// P2.7: Trivial.
func TestTrivial(t *testing.T) {
	for i, c := range []struct {
		n    int
		w    []int
		want bool
	}{
		{1, nil, true},
		{12, nil, true},
		{3, []int{1, 2, -2, -1}, true},
		{3, []int{1, 2, -1, -2}, false},
		{4, []int{1, 3, -1, -3}, true},
		{3, []int{1, 2, 1, -2, -1, -2}, true},
		{3, []int{1, 1}, false},
		{2, []int{-1}, false},
		{3, []int{1, 2, 1}, false},
		{3, []int{-1, -2, -1, 2, 1, 2}, true},
		{2, join(many(1, 200), many(-1, 200)), true},
		{2, join(many(1, 201), many(-1, 199)), false},
	} {
		if is, e := braids.Trivial(c.n, c.w); is != c.want || e != api.OK {
			t.Errorf("%d: Trivial = %v, %d", i, is, e)
		}
	}
	eachWord(func(n int, w []int) {
		is, e := braids.Trivial(n, w)
		if want := same(t, n, w, nil); is != want || e != api.OK {
			t.Fatalf("Trivial(%d, %v) = %v, %d", n, w, is, e)
		}
	})
}

// P2.9: Word of Normal is the same braid, if it is not too long.
func TestWordOfNormal(t *testing.T) {
	eachWord(func(n int, w []int) {
		power, factors := normal(t, n, w)
		back, e := braids.Word(n, power, factors)
		if e == api.ErrLong && len(w) > 8 {
			return
		}
		if e != api.OK || !same(t, n, w, back) {
			t.Fatalf("Word(%d, %d, %v) = %v, %d, not the same braid as %v", n, power, factors, back, e, w)
		}
	})
}

// someForm returns a normal form with at most so many factors, made by the definition alone.
func someForm(r *rand.Rand, n, most int) (power int, factors [][]int) {
	power = r.Intn(7) - 3
	for range 40 * most {
		p := r.Perm(n)
		fits := len(factors) < most && !slices.Equal(p, straight(n)) && !slices.Equal(p, reversed(n))
		for i := 1; i < n && fits && len(factors) > 0; i++ {
			fits = !beginsWith(p, i) || endsWith(factors[len(factors)-1], i)
		}
		if fits {
			factors = append(factors, p)
		}
	}
	return power, factors
}

// P2.9: Normal of Word of a normal form is this form.
func TestNormalOfWord(t *testing.T) {
	r := rand.New(rand.NewSource(3))
	tried := 0
	for range 2000 {
		n := 2 + r.Intn(6)
		power, factors := someForm(r, n, 1+r.Intn(8))
		w, e := braids.Word(n, power, factors)
		if e == api.ErrLong {
			continue
		}
		tried += len(factors)
		q, g := normal(t, n, w)
		if e != api.OK || q != power || !slices.EqualFunc(g, factors, slices.Equal[[]int]) {
			t.Fatalf("Normal of Word(%d, %d, %v) = %d, %v", n, power, factors, q, g)
		}
	}
	if tried < 5000 {
		t.Errorf("only %d factors were tried", tried)
	}
}
