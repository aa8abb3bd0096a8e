package sheet_test

import (
	"slices"
	"sync"
	"testing"

	"torchon/api"
	"torchon/sheet"
)

// roomy returns a list with room behind it.
func roomy[T any](l ...T) []T { return append(make([]T, 0, len(l)+20), l...) }

// whole returns a list with what lies behind it in its memory, as new memory.
func whole[T any](l []T) []T { return slices.Clone(l[:cap(l)]) }

// P1 (R3): arguments are not modified, and results are new memory: what is written into one of them changes neither an argument nor a later result.
func TestMemory(t *testing.T) {
	s := sheetOf(4, 0, 2, 1, 0)
	s.Works = roomy(s.Works...)
	works := whole(s.Works)
	done, order := roomy(0, 1), roomy(1, 0, 2, 3)
	lists := map[string]func() []int{
		"Line": func() []int {
			l, _ := sheet.Line(s, done)
			return l
		},
		"Ready": func() []int {
			l, _ := sheet.Ready(s, done)
			return l
		},
		"Chain": func() []int {
			l, _ := sheet.Chain(s, 0, 3)
			return l
		},
	}
	stays := func(name string) {
		t.Helper()
		if !slices.Equal(whole(s.Works), works) || s.Pairs != 4 {
			t.Errorf("%s: the sheet becomes %v", name, s)
		}
		if !slices.Equal(whole(done), whole(roomy(0, 1))) || !slices.Equal(whole(order), whole(roomy(1, 0, 2, 3))) {
			t.Errorf("%s: the lists become %v and %v", name, done, order)
		}
	}
	for name, call := range lists {
		l := call()
		want := slices.Clone(l)
		l = l[:cap(l)]
		for i := range l {
			l[i] = -99
		}
		stays(name)
		if again := call(); len(want) == 0 || !slices.Equal(again, want) {
			t.Errorf("%s: %v and then %v", name, want, again)
		}
	}
	edges, _ := sheet.Edges(s)
	want := slices.Clone(edges)
	clear(edges[:cap(edges)])
	stays("Edges")
	if again, _ := sheet.Edges(s); !slices.Equal(again, want) {
		t.Errorf("Edges: %v and then %v", want, again)
	}
	x, _ := sheet.Reorder(s, order)
	wanted := slices.Clone(x.Works)
	clear(x.Works[:cap(x.Works)])
	stays("Reorder")
	if again, _ := sheet.Reorder(s, order); !slices.Equal(again.Works, wanted) {
		t.Errorf("Reorder: %v and then %v", wanted, again.Works)
	}
	sheet.Check(s)
	sheet.Before(s, 0, 3)
	stays("Check and Before")
}

// P1 (R4): nil and empty lists mean the same.
func TestNilAndEmpty(t *testing.T) {
	for _, works := range [][]api.Work{nil, {}} {
		for _, none := range [][]int{nil, {}} {
			s := api.Sheet{Pairs: 2, Works: works}
			edges, e := sheet.Edges(s)
			line, f := sheet.Line(s, none)
			ready, g := sheet.Ready(s, none)
			x, h := sheet.Reorder(s, none)
			if sheet.Check(s) != api.OK || e != api.OK || f != api.OK || g != api.OK || h != api.OK {
				t.Errorf("%v, %v: errors %d, %d, %d, %d", s, none, e, f, g, h)
			}
			if len(edges) != 2 || !slices.Equal(line, []int{0, 1}) || len(ready) != 0 || x.Pairs != 2 || len(x.Works) != 0 {
				t.Errorf("%v, %v: %v, %v, %v, %v", s, none, edges, line, ready, x)
			}
		}
	}
}

// P1 (R6): results depend on the arguments alone, also when many calls run at the same time.
func TestCallsAreIndependent(t *testing.T) {
	s := largest()
	all := make([]int, len(s.Works))
	for i := range all {
		all[i] = i
	}
	look := func() []int {
		edges, _ := sheet.Edges(s)
		line, _ := sheet.Line(s, all[:200])
		ready, _ := sheet.Ready(s, all[:200])
		chain, _ := sheet.Chain(s, 0, 399)
		x, _ := sheet.Reorder(s, all)
		l := slices.Concat(line, ready, chain)
		for _, edge := range edges {
			l = append(l, edge.From, edge.Out, edge.To, edge.In)
		}
		return append(l, len(x.Works))
	}
	want := look()
	var group sync.WaitGroup
	for range 8 {
		group.Go(func() {
			for range 5 {
				if got := look(); !slices.Equal(got, want) {
					t.Errorf("%v, then %v", want, got)
				}
			}
		})
	}
	group.Wait()
}
