package order_test

import (
	"math"
	"math/rand"
	"slices"
	"strings"
	"sync"
	"testing"

	"torchon/api"
	"torchon/order"
	"torchon/sheet"
)

// A result is what a function returns: a list, a number, or both.
type result struct {
	list []int
	n    int64
	e    api.Errno
}

func (r result) equal(s result) bool {
	return slices.Equal(r.list, s.list) && r.n == s.n && r.e == s.e
}

// functions are the names of all functions; those but the first one have wishes.
var functions = []string{"Aside", "Least", "Cycle", "Near", "Count", "Next"}

// run calls a function; l is for Aside and Next alone.
func run(name string, s api.Sheet, wishes [][2]int, l []int) (r result) {
	n := 0
	switch name {
	case "Aside":
		n, r.e = order.Aside(s, l)
	case "Least":
		r.list, r.e = order.Least(s, wishes)
	case "Cycle":
		r.list, r.e = order.Cycle(s, wishes)
	case "Near":
		r.list, n, r.e = order.Near(s, wishes)
	case "Count":
		r.n, r.e = order.Count(s, wishes)
	case "Next":
		r.list, r.e = order.Next(s, wishes, l)
	}
	r.n += int64(n)
	return r
}

// broken are sheets that sheet.Check does not accept, also with several errors at once, and with too many works for Near and Count.
func broken() map[string]api.Sheet {
	with := func(s api.Sheet, i int, w api.Work) api.Sheet {
		s.Works[i] = w
		return s
	}
	many := func() api.Sheet { return sheetOf(3, make([]int, 17)...) }
	return map[string]api.Sheet{
		"nothing":                        {},
		"one pair":                       {Pairs: 1},
		"25 pairs":                       {Pairs: 25},
		"pairs without end":              {Pairs: math.MaxInt},
		"less than no pairs":             {Pairs: math.MinInt},
		"401 works":                      sheetOf(2, make([]int, 401)...),
		"401 works and 1 pair":           sheetOf(1, make([]int, 401)...),
		"17 moves":                       with(example(), 1, stitch(2, strings.Repeat("C", 17))),
		"no kind":                        with(example(), 3, api.Work{At: 2}),
		"the kind 3":                     with(example(), 0, api.Work{Kind: 3}),
		"to the left":                    with(example(), 0, stitch(-1, "CTC")),
		"to the right":                   with(example(), 3, stitch(3, "CTC")),
		"far to the right":               with(example(), 3, stitch(math.MaxInt, "CTC")),
		"far to the left":                with(example(), 0, stitch(math.MinInt, "CTC")),
		"a sewing with a word":           with(example(), 2, api.Work{Kind: api.WkSew, Word: "C"}),
		"a wrong letter":                 with(example(), 2, stitch(0, "CTx")),
		"a wrong letter, a wrong place":  with(with(example(), 2, stitch(0, "CTx")), 3, stitch(9, "C")),
		"17 works, one pair":             sheetOf(1, make([]int, 17)...),
		"17 works, a wrong place":        with(many(), 16, stitch(2, "CT")),
		"17 works, a wrong letter":       with(many(), 16, stitch(1, "x")),
		"17 works, a sewing with a word": with(many(), 0, api.Work{Kind: api.WkSew, Word: "C"}),
	}
}

// P13.1 to P13.3: all functions return the error of sheet.Check first, and nothing else, also if there is another error.
func TestErrorsOfSheets(t *testing.T) {
	met := map[api.Errno]int{}
	for name, s := range broken() {
		want := sheet.Check(s)
		met[want]++
		for _, wishes := range [][][2]int{nil, {{0, 1}}, {{0, 1}, {1, 0}}, {{2, 2}}, {{-1, 500}}, make([][2]int, 201)} {
			for _, l := range [][]int{nil, {0, 1, 2, 3}, {3, 2, 1, 0}, {-1}, upTo(17), upTo(401)} {
				for _, function := range functions {
					if r := run(function, s, wishes, l); !r.equal(result{e: want}) {
						t.Errorf("%s of %s: %v, want the error %d alone", function, name, r, want)
					}
				}
			}
		}
	}
	if met[api.OK] > 0 || met[api.ErrLong] < 3 || met[api.ErrArg] < 3 || met[api.ErrForm] < 2 {
		t.Errorf("the errors are %v", met)
	}
}

// roomy returns a list with room behind it.
func roomy[T any](l ...T) []T { return append(make([]T, 0, len(l)+20), l...) }

// whole returns a list with what lies behind it in its memory, as new memory.
func whole[T any](l []T) []T { return slices.Clone(l[:cap(l)]) }

// P1 (R3): arguments are not modified, and results are new memory: what is written into one of them changes neither an argument nor another result.
func TestMemory(t *testing.T) {
	s := sheetOf(6, 0, 2, 4, 1, 0)
	s.Works = roomy(s.Works...)
	for _, c := range []struct {
		wishes [][2]int
		l      []int
		names  []string
	}{
		{roomy([2]int{2, 0}, [2]int{2, 1}), roomy(2, 0, 1, 3, 4), []string{"Least", "Near", "Count", "Next", "Aside"}},
		{roomy([2]int{2, 0}, [2]int{4, 2}), roomy(1, 2, 0, 3, 4), []string{"Cycle", "Aside"}},
	} {
		works, wished, listed := whole(s.Works), whole(c.wishes), whole(c.l)
		stays := func(name string) {
			t.Helper()
			if s.Pairs != 6 || !slices.Equal(whole(s.Works), works) || !slices.Equal(whole(c.wishes), wished) || !slices.Equal(whole(c.l), listed) {
				t.Errorf("%s: the arguments become %v, %v and %v", name, s, c.wishes, c.l)
			}
		}
		for _, name := range c.names {
			first, second := run(name, s, c.wishes, c.l), run(name, s, c.wishes, c.l)
			want := result{slices.Clone(first.list), first.n, first.e}
			stays(name)
			room := first.list[:cap(first.list)]
			for i := range room {
				room[i] = -99
			}
			stays(name)
			if third := run(name, s, c.wishes, c.l); want.e != api.OK || !second.equal(want) || !third.equal(want) {
				t.Errorf("%s: %v, then %v and %v", name, want, second, third)
			}
			// What is written into the arguments changes no result.
			s.Works[0].At, c.wishes[0], c.l[0] = 1, [2]int{0, 1}, 3
			if !second.equal(want) {
				t.Errorf("%s: %v becomes %v", name, want, second)
			}
			s.Works[0].At, c.wishes[0], c.l[0] = works[0].At, wished[0], listed[0]
		}
	}
}

// P1 (R3, R6): no argument is kept: what is found for a sheet does not depend on calls for others, or with other wishes.
func TestNothingIsKept(t *testing.T) {
	s := sheetOf(6, 0, 2, 4)
	wishes := [][2]int{{2, 0}}
	for _, c := range []struct {
		name string
		want result
	}{
		{"Least", result{upTo(3), 0, api.OK}},
		{"Cycle", result{e: api.ErrNone}},
		{"Near", result{upTo(3), 2, api.OK}},
		{"Count", result{nil, 3, api.OK}},
		{"Next", result{[]int{0, 2, 1}, 0, api.OK}},
	} {
		run(c.name, s, wishes, []int{2, 0, 1})
		wishes[0] = [2]int{0, 2}
		if r := run(c.name, s, wishes, upTo(3)); !r.equal(c.want) {
			t.Errorf("%s with another wish: %v, want %v", c.name, r, c.want)
		}
		s.Works[1].At = 0
		run(c.name, s, wishes, upTo(3))
		s.Works[1].At = 2
		if r := run(c.name, s, wishes, upTo(3)); !r.equal(c.want) {
			t.Errorf("%s after another sheet: %v, want %v", c.name, r, c.want)
		}
		wishes[0] = [2]int{2, 0}
	}
}

// P1 (R4): nil and empty lists mean the same.
func TestNilAndEmpty(t *testing.T) {
	want := map[string]result{"Aside": {}, "Least": {}, "Cycle": {e: api.ErrNone}, "Near": {}, "Count": {n: 1}, "Next": {e: api.ErrDown}}
	for _, works := range [][]api.Work{nil, {}} {
		for _, wishes := range [][][2]int{nil, {}} {
			for _, l := range [][]int{nil, {}} {
				s := api.Sheet{Pairs: 2, Works: works}
				for _, name := range functions {
					if r := run(name, s, wishes, l); !r.equal(want[name]) {
						t.Errorf("%s without works: %v", name, r)
					}
				}
			}
		}
	}
}

// P1 (R1, R2): any arguments are accepted; errors come alone, and are those of sheet.Check, those of wishes, or else those that the functions have.
func TestAnyArguments(t *testing.T) {
	r := rand.New(rand.NewSource(12))
	numbers := []int{0, 1, 2, 3, -1, 22, 23, 24, math.MinInt, math.MaxInt}
	some := func() int { return numbers[min(r.Intn(15), r.Intn(10), r.Intn(10))] }
	own := map[string][]api.Errno{
		"Aside": {api.ErrNone},
		"Least": {order.ErrCircle},
		"Cycle": {api.ErrNone},
		"Near":  {order.ErrCircle, api.ErrLong},
		"Count": {api.ErrFull, api.ErrLong},
		"Next":  {api.ErrNone, api.ErrDown},
	}
	met := map[string]map[api.Errno]int{}
	for _, name := range functions {
		met[name] = map[api.Errno]int{}
	}
	for k := range 10000 {
		s := api.Sheet{Pairs: some() + r.Intn(4)}
		if k%3 == 0 {
			s.Pairs = 24
		}
		for range min(r.Intn(19), r.Intn(6+k%13)) {
			s.Works = append(s.Works, stitch(r.Intn(max(1, min(s.Pairs-1, 23))), "CT"))
		}
		if len(s.Works) > 0 && r.Intn(4) == 0 {
			s.Works[r.Intn(len(s.Works))] = api.Work{Kind: 1 + some(), At: some(), Word: []string{"", "CT", "x", "CTCTCTCTCTCTCTCTC"}[min(r.Intn(4), r.Intn(4))]}
		}
		if k%100 == 0 {
			s = apart(12)
			s.Works = append(s.Works, stitch(r.Intn(23), "TC"), sew(r.Intn(23)))
		}
		wishes := someWishes(r, len(s.Works), k%4)
		if r.Intn(8) == 0 {
			wishes = append(wishes, [2]int{some(), some()})
		}
		if r.Intn(30) == 0 {
			wishes = slices.Repeat([][2]int{{0, 1}}, 198+r.Intn(5))
		}
		l := upTo(len(s.Works))
		if len(l) > 0 && r.Intn(2) == 0 {
			l[r.Intn(len(l))] = some()
		}
		check := sheet.Check(s)
		for _, name := range functions {
			got := run(name, s, wishes, l)
			met[name][got.e]++
			want := check
			if want == api.OK && name != "Aside" {
				want = errorOf(wishes, len(s.Works))
			}
			switch {
			case got.e != api.OK && !got.equal(result{e: got.e}), want != api.OK && got.e != want:
				t.Fatalf("%s of %v, %v, %v: %v, want the error %d", name, s, wishes, l, got, want)
			case want == api.OK && got.e != api.OK && !slices.Contains(own[name], got.e):
				t.Fatalf("%s of %v, %v, %v: %v, which is no error that it has", name, s, wishes, l, got)
			}
		}
	}
	for _, name := range functions {
		for _, e := range append(own[name], api.OK, api.ErrArg, api.ErrForm, api.ErrLong) {
			if met[name][e] < 50 {
				t.Errorf("%s: the error %d was met %d times", name, e, met[name][e])
			}
		}
	}
}

// errorOf returns the error of wishes for so many works.
func errorOf(wishes [][2]int, works int) api.Errno {
	if len(wishes) > 200 {
		return api.ErrLong
	}
	for _, w := range wishes {
		if min(w[0], w[1]) < 0 || max(w[0], w[1]) >= works || w[0] == w[1] {
			return api.ErrArg
		}
	}
	return api.OK
}

// P1 (R6): results depend on the arguments alone, also when many calls run at the same time.
func TestCallsAreIndependent(t *testing.T) {
	r := rand.New(rand.NewSource(13))
	var sheets []api.Sheet
	var wishes [][][2]int
	for range 20 {
		s := someSheet(r, 2+r.Intn(23), r.Intn(api.MaxOrCount+1))
		sheets, wishes = append(sheets, s), append(wishes, someWishes(r, len(s.Works), 4))
	}
	look := func() []result {
		var l []result
		for k, s := range sheets {
			for _, name := range functions {
				l = append(l, run(name, s, wishes[k], upTo(len(s.Works))))
			}
		}
		return l
	}
	want := look()
	var group sync.WaitGroup
	for range 8 {
		group.Go(func() {
			for range 5 {
				if got := look(); !slices.EqualFunc(got, want, result.equal) {
					t.Errorf("%v, then %v", want, got)
				}
			}
		})
	}
	group.Wait()
}
