package braids_test

import (
	"slices"
	"sync"
	"testing"

	"torchon/api"
	"torchon/braids"
)

// spoil writes over the list, and over what lies behind it in its memory.
func spoil(l []int) {
	l = l[:cap(l)]
	for i := range l {
		l[i] = -99
	}
}

// roomy returns a list with room behind it.
func roomy(l ...int) []int { return append(make([]int, 0, len(l)+40), l...) }

// lists are the functions that return lists, for a word of 4 strands.
func lists() map[string]func(w []int) [][]int {
	one := func(w []int, e api.Errno) [][]int { return [][]int{w} }
	return map[string]func(w []int) [][]int{
		"Inverse": func(w []int) [][]int { return one(braids.Inverse(4, w)) },
		"Times 1": func(w []int) [][]int { return one(braids.Times(4, w, nil)) },
		"Times 2": func(w []int) [][]int { return one(braids.Times(4, nil, w)) },
		"Times":   func(w []int) [][]int { return one(braids.Times(4, w, w)) },
		"Reduce":  func(w []int) [][]int { return one(braids.Reduce(4, w)) },
		"Perm":    func(w []int) [][]int { return one(braids.Perm(4, w)) },
		"Drop":    func(w []int) [][]int { return one(braids.Drop(4, w, 3)) },
		"Lay":     func(w []int) [][]int { return one(braids.Lay(4, w, 3, true)) },
		"Links": func(w []int) [][]int {
			l, _ := braids.Links(4, w)
			return l
		},
		"Normal": func(w []int) [][]int {
			_, l, _ := braids.Normal(4, w)
			return l
		},
		"Word": func(w []int) [][]int { return one(braids.Word(4, 1, [][]int{{1, 0, 2, 3}})) },
	}
}

// P2.12: arguments are not modified, and results are new memory: what is written into one of them changes neither the argument, nor the other ones, nor later results.
func TestMemory(t *testing.T) {
	for name, call := range lists() {
		w := roomy(1, 2, 1, 1, 2, 2)
		behind := slices.Clone(w[:cap(w)])
		results := call(w)
		want := textOf(results)
		if !slices.Equal(w[:cap(w)], behind) {
			t.Errorf("%s changes its argument", name)
		}
		for i := range results {
			others := textOf(slices.Delete(slices.Clone(results), i, i+1))
			spoil(results[i])
			if textOf(slices.Delete(slices.Clone(results), i, i+1)) != others {
				t.Errorf("%s: the result %d shares memory with another one", name, i)
			}
		}
		if !slices.Equal(w[:cap(w)], behind) {
			t.Errorf("%s: a result shares memory with the argument", name)
		}
		if again := call(w); textOf(again) != want {
			t.Errorf("%s: %s and then %s", name, want, textOf(again))
		}
	}
}

// P2.12: Word does not modify its factors, nor keep them; Same does not modify its words.
func TestArgumentsStay(t *testing.T) {
	p := roomy(1, 0, 2)
	factors := [][]int{p, p}
	w, e := braids.Word(3, 0, factors)
	spoil(w)
	if e != api.OK || !slices.Equal(p[:cap(p)], append([]int{1, 0, 2}, make([]int, cap(p)-3)...)) || len(factors) != 2 {
		t.Errorf("Word: %d, %v", e, factors)
	}
	a, b := roomy(1, 2, 1), roomy(2, 1, 2)
	braids.Same(3, a, b)
	braids.Trivial(3, a)
	braids.Check(3, a)
	if !slices.Equal(a, []int{1, 2, 1}) || !slices.Equal(b, []int{2, 1, 2}) {
		t.Errorf("Same: %v, %v", a, b)
	}
}

// P2.12: nil and empty lists mean the same.
func TestNilAndEmpty(t *testing.T) {
	for name, call := range lists() {
		if a, b := textOf(call(nil)), textOf(call([]int{})); a != b {
			t.Errorf("%s: %s for nil, %s for an empty list", name, a, b)
		}
	}
	a, e := braids.Word(3, 1, nil)
	b, f := braids.Word(3, 1, [][]int{})
	if e != api.OK || f != api.OK || !slices.Equal(a, b) {
		t.Errorf("Word: %v, %d and %v, %d", a, e, b, f)
	}
	if _, e := braids.Word(3, 0, [][]int{{}}); e != api.ErrForm {
		t.Errorf("Word with an empty factor = %d", e)
	}
	if is, e := braids.Same(3, nil, []int{}); !is || e != api.OK {
		t.Errorf("Same of nil and an empty list = %v, %d", is, e)
	}
}

// P1 (R6): results depend on the arguments alone, also when many calls run at the same time.
func TestCallsAreIndependent(t *testing.T) {
	w := []int{1, 2, -3, 2, 1, 3, -1}
	want := map[string]string{}
	for name, call := range lists() {
		want[name] = textOf(call(w))
	}
	var group sync.WaitGroup
	for range 8 {
		group.Go(func() {
			for name, call := range lists() {
				if got := textOf(call(w)); got != want[name] {
					t.Errorf("%s: %s, then %s", name, want[name], got)
				}
			}
		})
	}
	group.Wait()
}
