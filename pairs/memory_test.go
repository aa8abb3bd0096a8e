package pairs_test

import (
	"math"
	"math/rand"
	"slices"
	"strings"
	"sync"
	"testing"

	"torchon/api"
	"torchon/pairs"
	"torchon/sheet"
)

// A result is what a function returns: a list, or the places of a mark; a need, or the work of a mark.
type result struct {
	list []int
	n    int
	e    api.Errno
}

func (r result) equal(s result) bool {
	return slices.Equal(r.list, s.list) && r.n == s.n && r.e == s.e
}

var functions = []string{"Hanging", "Fewest", "Bound", "Share"}

// run calls a function; order is for Hanging and Share alone.
func run(name string, s api.Sheet, order []int) (r result) {
	switch name {
	case "Hanging":
		r.list, r.n, r.e = pairs.Hanging(s, order)
	case "Fewest":
		r.list, r.n, r.e = pairs.Fewest(s)
	case "Bound":
		m, e := pairs.Bound(s)
		r = result{m.Places, m.Work, e}
	case "Share":
		r.list, r.e = pairs.Share(s, order)
	}
	return r
}

// broken are sheets that sheet.Check does not accept, also with several errors at once, and with too many works for Fewest.
func broken() map[string]api.Sheet {
	with := func(s api.Sheet, i int, w api.Work) api.Sheet {
		s.Works[i] = w
		return s
	}
	fifteen := func() api.Sheet { return sheetOf(3, make([]int, 15)...) }
	return map[string]api.Sheet{
		"nothing":                        {},
		"one pair":                       {Pairs: 1},
		"25 pairs":                       {Pairs: 25},
		"pairs without end":              {Pairs: math.MaxInt},
		"less than no pairs":             {Pairs: math.MinInt},
		"401 works":                      sheetOf(2, make([]int, 401)...),
		"401 works and 1 pair":           sheetOf(1, make([]int, 401)...),
		"17 moves":                       with(example(), 1, stitch(2, strings.Repeat("C", 17))),
		"no kind":                        with(example(), 3, api.Work{At: 2}),
		"the kind 3":                     with(example(), 0, api.Work{Kind: 3}),
		"to the left":                    with(example(), 0, stitch(-1, "CTC")),
		"to the right":                   with(example(), 3, stitch(3, "CTC")),
		"far to the right":               with(example(), 3, stitch(math.MaxInt, "CTC")),
		"a sewing with a word":           with(example(), 2, api.Work{Kind: api.WkSew, Word: "C"}),
		"a wrong letter":                 with(example(), 2, stitch(0, "CTx")),
		"a wrong letter, a wrong place":  with(with(example(), 2, stitch(0, "CTx")), 3, stitch(9, "C")),
		"15 works, one pair":             sheetOf(1, make([]int, 15)...),
		"15 works, a wrong place":        with(fifteen(), 14, stitch(2, "CT")),
		"15 works, a wrong letter":       with(fifteen(), 14, stitch(1, "x")),
		"15 works, a sewing with a word": with(fifteen(), 0, api.Work{Kind: api.WkSew, Word: "C"}),
	}
}

// P12.1 to P12.4: all functions return the error of sheet.Check first, and nothing else, also if there is another error.
func TestErrorsOfSheets(t *testing.T) {
	met := map[api.Errno]int{}
	for name, s := range broken() {
		want := sheet.Check(s)
		met[want]++
		for _, order := range [][]int{nil, {0, 1, 2, 3}, {3, 2, 1, 0}, {-1}, upTo(15), upTo(401)} {
			for _, function := range functions {
				if r := run(function, s, order); !r.equal(result{e: want}) {
					t.Errorf("%s of %s: %v, want the error %d alone", function, name, r, want)
				}
			}
		}
	}
	if met[api.OK] > 0 || met[api.ErrLong] < 3 || met[api.ErrArg] < 3 || met[api.ErrForm] < 2 {
		t.Errorf("the errors are %v", met)
	}
}

// roomy returns a list with room behind it.
func roomy[T any](l ...T) []T { return append(make([]T, 0, len(l)+20), l...) }

// whole returns a list with what lies behind it in its memory, as new memory.
func whole[T any](l []T) []T { return slices.Clone(l[:cap(l)]) }

// P1 (R3): arguments are not modified, and results are new memory: what is written into one of them changes neither an argument nor another result.
func TestMemory(t *testing.T) {
	s := example()
	s.Works = roomy(s.Works...)
	order := roomy(0, 2, 1, 3)
	works, orders := whole(s.Works), whole(order)
	stays := func(name string) {
		t.Helper()
		if s.Pairs != 4 || !slices.Equal(whole(s.Works), works) || !slices.Equal(whole(order), orders) {
			t.Errorf("%s: the arguments become %v and %v", name, s, order)
		}
	}
	for _, name := range functions {
		first, second := run(name, s, order), run(name, s, order)
		want := result{slices.Clone(first.list), first.n, first.e}
		stays(name)
		room := first.list[:cap(first.list)]
		for i := range room {
			room[i] = -99
		}
		stays(name)
		if third := run(name, s, order); want.e != api.OK || len(want.list) == 0 || !second.equal(want) || !third.equal(want) {
			t.Errorf("%s: %v, then %v and %v", name, want, second, third)
		}
		// What is written into the arguments changes no result.
		s.Works[0].At, order[0] = 1, 3
		if !second.equal(want) {
			t.Errorf("%s: %v becomes %v", name, want, second)
		}
		s.Works[0].At, order[0] = works[0].At, orders[0]
	}
}

// P1 (R3, R6): no argument is kept: what is found for a sheet does not depend on calls for others.
func TestNothingIsKept(t *testing.T) {
	s := example()
	run("Fewest", s, nil)
	s.Works[1].At, s.Works[3].At = 0, 0
	if r := run("Fewest", s, nil); !r.equal(result{upTo(4), 2, api.OK}) {
		t.Errorf("Fewest of a changed sheet: %v", r)
	}
	s.Pairs, s.Works[2].At = 6, 3
	if r := run("Fewest", s, nil); !r.equal(result{[]int{0, 1, 3, 2}, 2, api.OK}) {
		t.Errorf("Fewest of a sheet that is changed again: %v", r)
	}
}

// P1 (R4): nil and empty lists mean the same.
func TestNilAndEmpty(t *testing.T) {
	for _, works := range [][]api.Work{nil, {}} {
		for _, order := range [][]int{nil, {}} {
			s := api.Sheet{Pairs: 2, Works: works}
			for name, want := range map[string]result{"Hanging": {}, "Fewest": {}, "Bound": {e: api.ErrNone}, "Share": {list: []int{-1, -1}}} {
				if r := run(name, s, order); !r.equal(want) {
					t.Errorf("%s without works: %v", name, r)
				}
			}
		}
	}
}

// P1 (R1, R2): any arguments are accepted; errors come alone, and are those of sheet.Check, or else those that the functions have.
func TestAnyArguments(t *testing.T) {
	r := rand.New(rand.NewSource(12))
	numbers := []int{0, 1, 2, 3, -1, 22, 23, 24, math.MinInt, math.MaxInt}
	some := func() int { return numbers[min(r.Intn(15), r.Intn(10), r.Intn(10))] }
	own := map[string]api.Errno{"Hanging": api.ErrNone, "Fewest": api.ErrLong, "Bound": api.ErrNone, "Share": api.ErrNone}
	met := map[string]map[api.Errno]int{}
	for _, name := range functions {
		met[name] = map[api.Errno]int{}
	}
	for k := range 20000 {
		s := api.Sheet{Pairs: some() + r.Intn(4)}
		for range min(r.Intn(18), r.Intn(18), r.Intn(6+k%13)) {
			s.Works = append(s.Works, stitch(r.Intn(max(1, min(s.Pairs-1, 23))), "CT"))
		}
		if len(s.Works) > 0 && r.Intn(4) == 0 {
			s.Works[r.Intn(len(s.Works))] = api.Work{Kind: 1 + some(), At: some(), Word: []string{"", "CT", "x", "CTCTCTCTCTCTCTCTC"}[min(r.Intn(4), r.Intn(4))]}
		}
		order := upTo(len(s.Works))
		if len(order) > 0 && r.Intn(2) == 0 {
			order[r.Intn(len(order))] = some()
		}
		check := sheet.Check(s)
		for _, name := range functions {
			got := run(name, s, order)
			met[name][got.e]++
			if got.e != api.OK && !got.equal(result{e: got.e}) || check != api.OK && got.e != check || check == api.OK && got.e != api.OK && got.e != own[name] {
				t.Fatalf("%s of %v, %v: %v, and Check returns %d", name, s, order, got, check)
			}
		}
	}
	for _, name := range functions {
		for _, e := range []api.Errno{api.OK, api.ErrArg, api.ErrForm, api.ErrLong, own[name]} {
			if met[name][e] < 50 {
				t.Errorf("%s: the error %d was met %d times", name, e, met[name][e])
			}
		}
	}
}

// P1 (R6): results depend on the arguments alone, also when many calls run at the same time.
func TestCallsAreIndependent(t *testing.T) {
	r := rand.New(rand.NewSource(13))
	var sheets []api.Sheet
	for range 20 {
		sheets = append(sheets, someSheet(r, 2+r.Intn(12), r.Intn(api.MaxPrWorks+1)))
	}
	look := func() []result {
		var l []result
		for _, s := range sheets {
			for _, name := range functions {
				l = append(l, run(name, s, upTo(len(s.Works))))
			}
		}
		return l
	}
	want := look()
	var group sync.WaitGroup
	for range 8 {
		group.Go(func() {
			for range 5 {
				if got := look(); !slices.EqualFunc(got, want, result.equal) {
					t.Errorf("%v, then %v", want, got)
				}
			}
		})
	}
	group.Wait()
}
