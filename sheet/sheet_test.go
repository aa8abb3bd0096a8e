package sheet_test

import (
	"math"
	"math/rand"
	"slices"
	"strings"
	"testing"

	"torchon/api"
	"torchon/sheet"
)

// example is the sheet of the chapter's examples.
func example() api.Sheet {
	return api.Sheet{Pairs: 3, Works: []api.Work{stitch(0, "CTC"), stitch(1, "CT"), stitch(0, "CTC")}}
}

func stitch(at int, word string) api.Work {
	return api.Work{Kind: api.WkStitch, At: at, Word: word}
}

func sew(at int) api.Work {
	return api.Work{Kind: api.WkSew, At: at}
}

// sheetOf returns a sheet with works in these places, each of which differs from the one before it in its kind or its word.
func sheetOf(pairs int, at ...int) api.Sheet {
	s := api.Sheet{Pairs: pairs}
	for i, place := range at {
		w := stitch(place, [...]string{"CTC", "CT", "TP", "", "LrcP"}[i%5])
		if i%6 == 5 {
			w = sew(place)
		}
		s.Works = append(s.Works, w)
	}
	return s
}

// someSheet returns a sheet with so many works, which depends on r alone.
func someSheet(r *rand.Rand, pairs, works int) api.Sheet {
	at := make([]int, works)
	for i := range at {
		at[i] = r.Intn(pairs - 1)
	}
	return sheetOf(pairs, at...)
}

// manySheets calls with all sheets of at most 4 works on at most 4 pairs, and with some of at most so many works on at most 7.
func manySheets(works int, call func(s api.Sheet)) {
	var grow func(pairs int, at []int)
	grow = func(pairs int, at []int) {
		call(sheetOf(pairs, at...))
		for place := range pairs - 1 {
			if len(at) < 4 {
				grow(pairs, append(slices.Clone(at), place))
			}
		}
	}
	for pairs := 2; pairs <= 4; pairs++ {
		grow(pairs, nil)
	}
	r := rand.New(rand.NewSource(1))
	for range 300 {
		call(someSheet(r, 2+r.Intn(6), r.Intn(works+1)))
	}
}

// largest is a sheet that reaches all limits: 24 pairs, and 400 works with 16 moves each.
func largest() api.Sheet {
	s := someSheet(rand.New(rand.NewSource(2)), 24, 400)
	for i := range s.Works {
		s.Works[i] = stitch(s.Works[i].At, strings.Repeat("Lr", 8))
	}
	return s
}

// with returns the example with one work changed.
func with(i int, w api.Work) api.Sheet {
	s := example()
	s.Works[i] = w
	return s
}

var sixteen = strings.Repeat("CT", 8)

// A checked is a sheet and the error that Check has for it.
type checked struct {
	name string
	s    api.Sheet
	want api.Errno
}

// broken are the sheets that Check does not accept.
func broken() []checked {
	long := sixteen + "C"
	many := make([]api.Work, 401)
	for i := range many {
		many[i] = stitch(0, "CTC")
	}
	spoiled := slices.Clone(many)
	spoiled[400] = api.Work{Kind: 9, At: -1, Word: "x"}
	return []checked{
		{"25 pairs", api.Sheet{Pairs: 25}, api.ErrLong},
		{"pairs without end", api.Sheet{Pairs: math.MaxInt}, api.ErrLong},
		{"401 works", api.Sheet{Pairs: 2, Works: many}, api.ErrLong},
		{"401 works, zero", api.Sheet{Pairs: 2, Works: make([]api.Work, 401)}, api.ErrLong},
		{"401 works, the last one spoiled", api.Sheet{Pairs: 2, Works: spoiled}, api.ErrLong},
		{"17 moves", with(0, stitch(0, long)), api.ErrLong},
		{"17 moves at the end", with(2, stitch(0, long)), api.ErrLong},
		{"17 bytes that are no moves", with(1, stitch(0, sixteen+"x")), api.ErrLong},
		{"a sewing with 17 moves", with(1, api.Work{Kind: api.WkSew, Word: long}), api.ErrLong},
		{"25 pairs and a wrong work", api.Sheet{Pairs: 25, Works: []api.Work{{Kind: 3, At: -1, Word: "x"}}}, api.ErrLong},
		{"no pairs and 401 works", api.Sheet{Works: many}, api.ErrLong},
		{"no pairs and 17 moves", api.Sheet{Works: []api.Work{stitch(0, long)}}, api.ErrLong},
		{"17 moves after a wrong place", api.Sheet{Pairs: 3, Works: []api.Work{stitch(7, ""), stitch(0, long)}}, api.ErrLong},
		{"17 moves after a wrong letter", api.Sheet{Pairs: 3, Works: []api.Work{stitch(0, "x"), stitch(0, long)}}, api.ErrLong},
		{"17 moves of no kind", api.Sheet{Pairs: 3, Works: []api.Work{{Word: long}}}, api.ErrLong},

		{"nothing", api.Sheet{}, api.ErrArg},
		{"one pair", api.Sheet{Pairs: 1}, api.ErrArg},
		{"one pair with a work", api.Sheet{Pairs: 1, Works: []api.Work{stitch(0, "")}}, api.ErrArg},
		{"less than no pairs", api.Sheet{Pairs: -1}, api.ErrArg},
		{"the least number of pairs", api.Sheet{Pairs: math.MinInt, Works: []api.Work{stitch(0, "")}}, api.ErrArg},
		{"one pair and a wrong letter", api.Sheet{Pairs: 1, Works: []api.Work{stitch(0, "x")}}, api.ErrArg},
		{"no kind", with(1, api.Work{At: 1, Word: "CT"}), api.ErrArg},
		{"the kind 3", with(1, api.Work{Kind: 3, At: 1, Word: "CT"}), api.ErrArg},
		{"the kind 3 without a word", with(1, api.Work{Kind: 3, At: 1}), api.ErrArg},
		{"the kind -1", with(2, api.Work{Kind: -1, At: 1}), api.ErrArg},
		{"a stitch at -1", with(0, stitch(-1, "CT")), api.ErrArg},
		{"a stitch at the last place", with(2, stitch(2, "CT")), api.ErrArg},
		{"a stitch behind the last place", with(2, stitch(3, "CT")), api.ErrArg},
		{"a stitch far to the right", with(1, stitch(math.MaxInt, "CT")), api.ErrArg},
		{"a stitch far to the left", with(1, stitch(math.MinInt, "CT")), api.ErrArg},
		{"a sewing at -1", with(0, sew(-1)), api.ErrArg},
		{"a sewing at the last place", with(2, sew(2)), api.ErrArg},
		{"a sewing with a word", with(1, api.Work{Kind: api.WkSew, Word: "CT"}), api.ErrArg},
		{"a sewing with a pin", with(1, api.Work{Kind: api.WkSew, Word: "P"}), api.ErrArg},
		{"a sewing with a wrong letter", with(1, api.Work{Kind: api.WkSew, Word: "x"}), api.ErrArg},
		{"a wrong letter and then a wrong place", api.Sheet{Pairs: 3, Works: []api.Work{stitch(0, "x"), stitch(2, "CT")}}, api.ErrArg},
		{"a wrong letter and then a wrong kind", api.Sheet{Pairs: 3, Works: []api.Work{stitch(0, "x"), {Kind: 4}}}, api.ErrArg},
		{"a wrong letter and then a sewing with a word", api.Sheet{Pairs: 3, Works: []api.Work{stitch(0, "x"), {Kind: api.WkSew, Word: "C"}}}, api.ErrArg},

		{"a wrong letter", with(0, stitch(0, "CTX")), api.ErrForm},
		{"a wrong letter at the end", with(2, stitch(0, "xCT")), api.ErrForm},
		{"a blank", with(1, stitch(1, "C T")), api.ErrForm},
		{"a byte 0", with(1, stitch(1, "\x00")), api.ErrForm},
		{"a name", with(1, stitch(1, "cloth")), api.ErrForm},
		{"16 bytes that are no moves", with(1, stitch(1, sixteen[:15]+"x")), api.ErrForm},
		{"p", with(1, stitch(1, "CpC")), api.ErrForm},
	}
}

// P4.1: Check, also with several errors at once.
func TestCheckErrors(t *testing.T) {
	for _, c := range broken() {
		if e := sheet.Check(c.s); e != c.want {
			t.Errorf("%s: %d, want %d", c.name, e, c.want)
		}
	}
}

// P4.1: what Check accepts, with the limits just reached.
func TestCheckAccepts(t *testing.T) {
	for name, s := range map[string]api.Sheet{
		"example":         example(),
		"two pairs":       {Pairs: 2},
		"no works":        {Pairs: 24, Works: []api.Work{}},
		"largest":         largest(),
		"all moves":       with(0, stitch(0, "CLRTPclrt")),
		"no moves":        with(0, stitch(0, "")),
		"16 moves":        with(2, stitch(1, sixteen)),
		"last place":      {Pairs: 24, Works: []api.Work{stitch(22, "C"), sew(22)}},
		"sewings":         {Pairs: 2, Works: []api.Work{sew(0), sew(0)}},
		"400 works":       {Pairs: 2, Works: slices.Repeat([]api.Work{stitch(0, "P")}, 400)},
		"400 sewings":     {Pairs: 2, Works: slices.Repeat([]api.Work{sew(0)}, 400)},
		"undone at once":  {Pairs: 2, Works: []api.Work{stitch(0, "C"), stitch(0, "c")}},
		"only to a side":  {Pairs: 24, Works: []api.Work{stitch(0, "C")}},
		"on other places": {Pairs: 5, Works: []api.Work{stitch(3, "C"), stitch(0, "T"), stitch(1, "P"), stitch(2, "L")}},
	} {
		if e := sheet.Check(s); e != api.OK {
			t.Errorf("%s: %d", name, e)
		}
	}
}

// calls are all functions but Check; each returns whether there is a result beside the error. Some are called with what is an error of theirs for any sheet.
func calls() map[string]func(s api.Sheet) (bool, api.Errno) {
	return map[string]func(s api.Sheet) (bool, api.Errno){
		"Edges": func(s api.Sheet) (bool, api.Errno) {
			l, e := sheet.Edges(s)
			return len(l) > 0, e
		},
		"Line": func(s api.Sheet) (bool, api.Errno) {
			l, e := sheet.Line(s, nil)
			return len(l) > 0, e
		},
		"Line of a wrong list": func(s api.Sheet) (bool, api.Errno) {
			l, e := sheet.Line(s, []int{500, -1})
			return len(l) > 0, e
		},
		"Ready": func(s api.Sheet) (bool, api.Errno) {
			l, e := sheet.Ready(s, nil)
			return len(l) > 0, e
		},
		"Ready of a wrong list": func(s api.Sheet) (bool, api.Errno) {
			l, e := sheet.Ready(s, []int{500, -1})
			return len(l) > 0, e
		},
		"Before":                func(s api.Sheet) (bool, api.Errno) { return sheet.Before(s, 0, 2) },
		"Before of wrong works": func(s api.Sheet) (bool, api.Errno) { return sheet.Before(s, -1, 500) },
		"Chain": func(s api.Sheet) (bool, api.Errno) {
			l, e := sheet.Chain(s, 0, 2)
			return len(l) > 0, e
		},
		"Chain of wrong works": func(s api.Sheet) (bool, api.Errno) {
			l, e := sheet.Chain(s, -1, 500)
			return len(l) > 0, e
		},
		"Reorder": func(s api.Sheet) (bool, api.Errno) {
			order := make([]int, len(s.Works))
			for i := range order {
				order[i] = i
			}
			x, e := sheet.Reorder(s, order)
			return x.Pairs != 0 || len(x.Works) > 0, e
		},
		"Reorder in a wrong order": func(s api.Sheet) (bool, api.Errno) {
			x, e := sheet.Reorder(s, []int{500, -1})
			return x.Pairs != 0 || len(x.Works) > 0, e
		},
	}
}

// P4.1: all other functions return the error of Check first, and nothing else.
func TestErrorsOfSheets(t *testing.T) {
	for name, call := range calls() {
		for _, c := range broken() {
			if some, e := call(c.s); some || e != c.want {
				t.Errorf("%s, %s: error %d, want %d alone", name, c.name, e, c.want)
			}
		}
	}
}

// hasPlace returns whether a work takes a place.
func hasPlace(w api.Work, place int) bool {
	return place == w.At || place == w.At+1
}

// touching returns whether two works have a place in common.
func touching(v, w api.Work) bool {
	return hasPlace(v, w.At) || hasPlace(v, w.At+1)
}

// beforeTable returns for each two works whether the first one is before the second one, by the definition.
func beforeTable(s api.Sheet) [][]bool {
	is := make([][]bool, len(s.Works))
	for a := range is {
		is[a] = make([]bool, len(s.Works))
		for b := range is[a] {
			is[a][b] = a < b && touching(s.Works[a], s.Works[b])
		}
	}
	for k := range is {
		for a := range is {
			for b := range is {
				is[a][b] = is[a][b] || is[a][k] && is[k][b]
			}
		}
	}
	return is
}

// sets calls with all lists of works, ascending.
func sets(works int, call func(done []int)) {
	for bits := range 1 << works {
		var done []int
		for i := range works {
			if bits>>i&1 == 1 {
				done = append(done, i)
			}
		}
		call(done)
	}
}

// isClosed returns whether a set has with each work all that are before it.
func isClosed(before [][]bool, done []int) bool {
	for _, b := range done {
		for a := range before {
			if before[a][b] && !slices.Contains(done, a) {
				return false
			}
		}
	}
	return true
}
