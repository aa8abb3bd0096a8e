package traces_test

import (
	"math"
	"math/rand"
	"slices"
	"sync"
	"testing"

	"torchon/api"
	"torchon/sheet"
	"torchon/traces"
)

// roomy returns a list with room behind it.
func roomy[T any](l ...T) []T { return append(make([]T, 0, len(l)+20), l...) }

// whole returns a list with what lies behind it in its memory, as new memory.
func whole[T any](l []T) []T { return slices.Clone(l[:cap(l)]) }

// lists are all functions that return lists.
func lists(a, b api.Sheet) map[string]func() ([]int, api.Errno) {
	return map[string]func() ([]int, api.Errno){
		"Match":  func() ([]int, api.Errno) { return traces.Match(a, b) },
		"Swaps":  func() ([]int, api.Errno) { return traces.Swaps(a, b) },
		"Least":  func() ([]int, api.Errno) { return traces.Least(a) },
		"Levels": func() ([]int, api.Errno) { return traces.Levels(a) },
		"Nth":    func() ([]int, api.Errno) { return traces.Nth(a, 1) },
	}
}

// P5.10 and P1 (R3): arguments are not modified, and results are new memory: what is written into one of them changes neither an argument nor a later result.
func TestMemory(t *testing.T) {
	a, b := exampleA(), exampleB()
	a.Works, b.Works = roomy(a.Works...), roomy(b.Works...)
	order := roomy(1, 0, 2)
	worksA, worksB, orders := whole(a.Works), whole(b.Works), whole(order)
	stays := func(name string) {
		t.Helper()
		if a.Pairs != 4 || b.Pairs != 4 || !slices.Equal(whole(a.Works), worksA) || !slices.Equal(whole(b.Works), worksB) || !slices.Equal(whole(order), orders) {
			t.Errorf("%s: the arguments become %v, %v and %v", name, a, b, order)
		}
	}
	for name, call := range lists(a, b) {
		l, e := call()
		want := slices.Clone(l)
		l = l[:cap(l)]
		for i := range l {
			l[i] = -99
		}
		stays(name)
		if again, f := call(); e != api.OK || f != api.OK || len(want) == 0 || !slices.Equal(again, want) {
			t.Errorf("%s: %v, %d and then %v, %d", name, want, e, again, f)
		}
	}
	traces.Same(a, b)
	traces.Orders(a)
	traces.Rank(a, order)
	stays("Same, Orders and Rank")
}

// P1 (R3): arguments are not kept: a result of a sheet that is changed afterwards is that of the changed sheet.
func TestChangedArguments(t *testing.T) {
	s := halves(6, 0, 2, 4)
	before, _ := traces.Orders(s)
	s.Works[1].At = 1
	if n, e := traces.Orders(s); before != 6 || n != 3 || e != api.OK {
		t.Errorf("Orders: %d, and then %d, %d", before, n, e)
	}
}

// P1 (R4): nil and empty lists mean the same.
func TestNilAndEmpty(t *testing.T) {
	for _, a := range []api.Sheet{{Pairs: 2}, {Pairs: 2, Works: []api.Work{}}} {
		for _, b := range []api.Sheet{{Pairs: 2}, {Pairs: 2, Works: []api.Work{}}} {
			for name, call := range lists(a, b) {
				want := api.OK
				if name == "Nth" {
					want = api.ErrNone
				}
				if l, e := call(); len(l) > 0 || e != want {
					t.Errorf("%s of %v and %v: %v, %d", name, a, b, l, e)
				}
			}
			if same, e := traces.Same(a, b); !same || e != api.OK {
				t.Errorf("Same of %v and %v: %v, %d", a, b, same, e)
			}
		}
		if n, e := traces.Orders(a); n != 1 || e != api.OK {
			t.Errorf("Orders of %v: %d, %d", a, n, e)
		}
		if l, e := traces.Nth(a, 0); len(l) > 0 || e != api.OK {
			t.Errorf("Nth 0 of %v: %v, %d", a, l, e)
		}
	}
}

// P5.10 and P1 (R1): any arguments are accepted, and the errors are those of sheet.Check, or else those that the functions have.
func TestAnyArguments(t *testing.T) {
	r := rand.New(rand.NewSource(11))
	numbers := []int{0, 1, 2, 3, -1, 23, 24, math.MinInt, math.MaxInt}
	some := func() int { return numbers[min(r.Intn(14), r.Intn(9), r.Intn(9))] }
	sheets := func() api.Sheet {
		s := api.Sheet{Pairs: some() + r.Intn(3)}
		for range r.Intn(5) {
			s.Works = append(s.Works, api.Work{Kind: 1 + some(), At: some(), Word: []string{"", "CT", "x", "CTCTCTCTCTCTCTCTC"}[min(r.Intn(4), r.Intn(4))]})
		}
		return s
	}
	for range 20000 {
		a, b := sheets(), sheets()
		order := []int{some(), some(), some()}[:r.Intn(4)]
		k := int64(some())
		first := sheet.Check(a)
		both := first
		if both == api.OK {
			both = sheet.Check(b)
		}
		is := func(name string, e, check api.Errno, own ...api.Errno) {
			t.Helper()
			if check != api.OK && e != check || check == api.OK && e != api.OK && !slices.Contains(own, e) {
				t.Fatalf("%s of %v, %v, %v, %d: %d; Check: %d", name, a, b, order, k, e, check)
			}
		}
		_, e := traces.Same(a, b)
		is("Same", e, both)
		_, e = traces.Match(a, b)
		is("Match", e, both, api.ErrNone)
		_, e = traces.Swaps(a, b)
		is("Swaps", e, both, api.ErrNone)
		_, e = traces.Least(a)
		is("Least", e, first)
		_, e = traces.Levels(a)
		is("Levels", e, first)
		_, e = traces.Orders(a)
		is("Orders", e, first)
		_, e = traces.Nth(a, k)
		is("Nth", e, first, api.ErrRange, api.ErrNone)
		_, e = traces.Rank(a, order)
		is("Rank", e, first, api.ErrNone)
	}
}

// P5.10: the greatest sheets are accepted.
func TestLargest(t *testing.T) {
	s := largest()
	if same, e := traces.Same(s, s); !same || e != api.OK {
		t.Errorf("Same: %v, %d", same, e)
	}
	if l, e := traces.Match(s, s); !slices.Equal(l, upTo(400)) || e != api.OK {
		t.Errorf("Match: %v, %d", l, e)
	}
	if l, e := traces.Swaps(s, s); len(l) > 0 || e != api.OK {
		t.Errorf("Swaps: %v, %d", l, e)
	}
	if l, e := traces.Least(s); !slices.Equal(l, leastOrder(s)) || e != api.OK {
		t.Errorf("Least: %v, %d", l, e)
	}
	if l, e := traces.Levels(s); len(l) != 400 || e != api.OK {
		t.Errorf("Levels: %v, %d", l, e)
	}
	noOrders(t, s, api.ErrLong)
}

// P1 (R6): results depend on the arguments alone, also when many calls run at the same time.
func TestCallsAreIndependent(t *testing.T) {
	r := rand.New(rand.NewSource(12))
	a := someSheet(r, 9, 14)
	b := shuffled(r, a).sheet
	look := func() []int {
		var l []int
		for _, name := range []string{"Match", "Swaps", "Least", "Levels", "Nth"} {
			results, e := lists(a, b)[name]()
			l = append(append(l, results...), int(e))
		}
		many, e := traces.Orders(a)
		number, f := traces.Rank(a, upTo(14))
		return append(l, int(many), int(e), int(number), int(f))
	}
	want := look()
	var group sync.WaitGroup
	for range 8 {
		group.Go(func() {
			for range 5 {
				if got := look(); !slices.Equal(got, want) {
					t.Errorf("%v, then %v", want, got)
				}
			}
		})
	}
	group.Wait()
}
