package diagram_test

import (
	"math"
	"math/rand"
	"slices"
	"strings"
	"sync"
	"testing"
	"unsafe"

	"torchon/api"
	"torchon/diagram"
	"torchon/sheet"
)

// An all is what all functions are given.
type all struct {
	s        api.Sheet
	from, to int
	text     string
}

// A result is what a function returns.
type result struct {
	rows  [][]int
	looks []string
	s     api.Sheet
	line  int
	text  string
	e     api.Errno
}

func (r result) equal(o result) bool {
	return slices.EqualFunc(r.rows, o.rows, slices.Equal) && slices.Equal(r.looks, o.looks) && equal(r.s, o.s) && r.line == o.line && r.text == o.text && r.e == o.e
}

// copied returns a result in new memory.
func (r result) copied() result {
	r.rows, r.looks, r.s.Works = slices.Clone(r.rows), slices.Clone(r.looks), slices.Clone(r.s.Works)
	for n, row := range r.rows {
		r.rows[n] = slices.Clone(row)
	}
	return r
}

// spoil writes into all the memory of a result, also behind its lists.
func (r result) spoil() {
	for _, row := range r.rows[:cap(r.rows)] {
		row = row[:cap(row)]
		for k := range row {
			row[k] = -99
		}
	}
	clear(r.rows[:cap(r.rows)])
	clear(r.looks[:cap(r.looks)])
	clear(r.s.Works[:cap(r.s.Works)])
}

var functions = []string{"Rows", "Sheet", "Letters", "Cut", "Draw", "Read"}

// run calls a function.
func (x all) run(name string) (r result) {
	switch name {
	case "Rows":
		r.rows, r.e = diagram.Rows(x.s)
	case "Sheet":
		r.s, r.e = diagram.Sheet(x.s)
	case "Letters":
		r.looks, r.e = diagram.Letters(x.s)
	case "Cut":
		r.s, r.e = diagram.Cut(x.s, x.from, x.to)
	case "Draw":
		r.text, r.e = diagram.Draw(x.s)
	case "Read":
		r.s, r.line, r.e = diagram.Read(x.text)
	}
	return r
}

// judged says what a function must return.
func (x all) judged(name string) (r result) {
	if name == "Read" {
		r.s, r.line, r.e = readOf(x.text)
		return r
	}
	if r.e = sheet.Check(x.s); r.e != api.OK {
		return r
	}
	switch name {
	case "Rows":
		r.rows = rowsOf(x.s)
	case "Sheet":
		r.s = inRows(x.s)
	case "Cut":
		r.s, r.e = cutOf(x.s, x.from, x.to)
	case "Letters", "Draw":
		looks := looksOf(x.s)
		switch {
		case len(looks) > 52:
			r.e = api.ErrFull
		case name == "Letters":
			r.looks = looks
		default:
			r.text = textOf(x.s)
		}
	}
	return r
}

// broken are sheets that sheet.Check does not accept, also with several errors at once, and with too many looks.
func broken() map[string]api.Sheet {
	with := func(s api.Sheet, i int, w api.Work) api.Sheet {
		s.Works[i] = w
		return s
	}
	repeated := func(pairs, works int) api.Sheet {
		return api.Sheet{Pairs: pairs, Works: slices.Repeat([]api.Work{stitch(0, "CT")}, works)}
	}
	return map[string]api.Sheet{
		"nothing":                          {},
		"one pair":                         {Pairs: 1},
		"25 pairs":                         {Pairs: 25},
		"pairs without end":                {Pairs: math.MaxInt},
		"less than no pairs":               {Pairs: math.MinInt},
		"401 works":                        repeated(2, 401),
		"401 works, one pair":              repeated(1, 401),
		"401 works without a kind":         {Pairs: 2, Works: make([]api.Work, 401)},
		"17 moves":                         with(example(), 1, stitch(2, strings.Repeat("C", 17))),
		"17 wrong letters":                 with(example(), 1, stitch(2, strings.Repeat("x", 17))),
		"17 moves, a wrong place":          with(with(example(), 1, stitch(2, strings.Repeat("C", 17))), 0, stitch(3, "C")),
		"no kind":                          with(example(), 2, api.Work{At: 2}),
		"the kind 3":                       with(example(), 0, api.Work{Kind: 3}),
		"to the left":                      with(example(), 0, stitch(-1, "CTC")),
		"to the right":                     with(example(), 2, stitch(3, "CTC")),
		"far to the right":                 with(example(), 2, stitch(math.MaxInt, "CTC")),
		"far to the left":                  with(example(), 0, stitch(math.MinInt, "CTC")),
		"a sewing with a word":             with(example(), 2, api.Work{Kind: api.WkSew, Word: "C"}),
		"a wrong letter":                   with(example(), 2, stitch(0, "CTx")),
		"sew as a word":                    with(example(), 2, stitch(0, "sew")),
		"- as a word":                      with(example(), 2, stitch(0, "-")),
		"a wrong letter, a wrong place":    with(with(example(), 2, stitch(0, "CTx")), 1, stitch(9, "C")),
		"53 looks, a wrong place":          with(different(53), 0, sew(1)),
		"53 looks, a wrong letter":         with(different(53), 0, stitch(0, "CTx")),
		"53 looks, a long word":            with(different(53), 0, stitch(0, strings.Repeat("C", 17))),
		"53 looks, a kind that is no kind": with(different(53), 0, api.Work{Kind: -1}),
	}
}

// P14.1 to P14.3: all functions with a sheet return the error of sheet.Check first, and nothing else, also if there is another error.
func TestErrorsOfSheets(t *testing.T) {
	met := map[api.Errno]int{}
	for name, s := range broken() {
		want := result{e: sheet.Check(s)}
		met[want.e]++
		for _, rows := range [][2]int{{0, 0}, {0, 1}, {-1, 0}, {1, 0}, {0, 500}} {
			for _, function := range functions[:5] {
				if r := (all{s: s, from: rows[0], to: rows[1]}).run(function); !r.equal(want) {
					t.Errorf("%s of %s: %v, want the error %d alone", function, name, r, want.e)
				}
			}
		}
	}
	if met[api.OK] > 0 || met[api.ErrLong] < 5 || met[api.ErrArg] < 5 || met[api.ErrForm] < 4 {
		t.Errorf("the errors are %v", met)
	}
}

// roomy returns a sheet with room behind its list, and with words that have memory of their own.
func roomy(s api.Sheet) api.Sheet {
	s.Works = append(make([]api.Work, 0, len(s.Works)+9), s.Works...)
	for i := range s.Works {
		s.Works[i].Word = strings.Clone(s.Works[i].Word)
	}
	return s
}

// given returns what is given to all functions in the tests of memory: each function returns something for it.
func given() all {
	s := roomy(sheetOf(6, stitch(4, "P"), stitch(2, "CTC"), stitch(3, "CT"), sew(0), stitch(1, "CT"), stitch(2, "CTC")))
	return all{s, 0, 2, strings.Clone(textOf(s))}
}

// P14.8 and P1 (R3): arguments are not modified, and results are new memory: what is written into one of them changes neither an argument nor another result.
func TestMemory(t *testing.T) {
	x := given()
	works, text := slices.Clone(x.s.Works[:cap(x.s.Works)]), strings.Clone(x.text)
	stays := func(name string) {
		t.Helper()
		if x.s.Pairs != 6 || x.text != text || !slices.Equal(x.s.Works[:cap(x.s.Works)], works) {
			t.Errorf("%s: the arguments become %v", name, x)
		}
	}
	for _, name := range functions {
		first, second := x.run(name), x.run(name)
		want := first.copied()
		stays(name)
		first.spoil()
		stays(name)
		if third := x.run(name); want.e != api.OK || !want.equal(x.judged(name)) || !second.equal(want) || !third.equal(want) {
			t.Errorf("%s: %v, then %v and %v", name, want, second, third)
		}
		// What is written into the arguments changes no result.
		x.s.Works[1] = sew(4)
		if !second.equal(want) {
			t.Errorf("%s: %v becomes %v", name, want, second)
		}
		x.s.Works[1] = works[1]
	}
}

// P1 (R3): the rows of a result share no memory with each other: one that grows does not change another one.
func TestRowsHaveTheirOwnMemory(t *testing.T) {
	x := given()
	rows, _ := diagram.Rows(x.s)
	for n := range rows {
		rows[n] = append(rows[n], 77)
		rows[n] = rows[n][:len(rows[n])-1]
		whole := rows[n][:cap(rows[n])]
		for k := len(rows[n]); k < len(whole); k++ {
			whole[k] = -1
		}
	}
	if want := rowsOf(x.s); !slices.EqualFunc(rows, want, slices.Equal) {
		t.Errorf("the rows become %v, want %v", rows, want)
	}
}

// P1 (R3): strings of results are new memory, too.
func TestNewStrings(t *testing.T) {
	x := given()
	span := func(s string) [2]uintptr {
		from := uintptr(unsafe.Pointer(unsafe.StringData(s)))
		return [2]uintptr{from, from + uintptr(len(s))}
	}
	old := [][2]uintptr{span(x.text)}
	for _, w := range x.s.Works {
		old = append(old, span(w.Word))
	}
	for _, name := range functions {
		r := x.run(name)
		strs := []string{r.text}
		for _, w := range r.s.Works {
			strs = append(strs, w.Word)
		}
		for _, look := range r.looks {
			if look != "sew" && look != "-" {
				strs = append(strs, look)
			}
		}
		for _, s := range strs {
			if s == "" {
				continue
			}
			now := span(s)
			if slices.ContainsFunc(old, func(o [2]uintptr) bool { return now[0] < o[1] && o[0] < now[1] }) {
				t.Errorf("%s: %q shares memory", name, s)
			}
			old = append(old, now)
		}
	}
}

// P1 (R3, R6): no argument is kept: what is found for a sheet does not depend on calls for others.
func TestNothingIsKept(t *testing.T) {
	x := given()
	for _, name := range functions {
		before := x.run(name)
		x.s.Works[1].At, x.s.Works[0].Word = 0, "CTCT"
		x.text = textOf(x.s)
		after := x.run(name)
		if after.equal(before) && name != "Letters" || !after.equal(x.judged(name)) {
			t.Errorf("%s: %v, and after a change %v", name, before, after)
		}
		x = given()
		if again := x.run(name); !again.equal(before) {
			t.Errorf("%s: %v, and then %v", name, before, again)
		}
	}
}

// P1 (R4): nil and empty lists mean the same.
func TestNilAndEmpty(t *testing.T) {
	for _, works := range [][]api.Work{nil, {}} {
		x := all{s: api.Sheet{Pairs: 3, Works: works}, text: "diagram 3 0\n"}
		for _, name := range functions {
			if r := x.run(name); !r.equal(x.judged(name)) || r.e != api.OK {
				t.Errorf("%s without works: %v", name, r)
			}
		}
	}
}

// P14.8 and P1 (R1, R2): any arguments are accepted; errors come alone, but for the number of a line.
func TestAnyArguments(t *testing.T) {
	r := rand.New(rand.NewSource(6))
	numbers := []int{0, 1, 2, 3, -1, 22, 23, 24, math.MinInt, math.MaxInt}
	some := func() int { return numbers[min(r.Intn(15), r.Intn(10), r.Intn(10))] }
	met := map[string]map[api.Errno]int{}
	for _, name := range functions {
		met[name] = map[api.Errno]int{}
	}
	for k := range 20000 {
		x := all{s: api.Sheet{Pairs: some() + r.Intn(4)}, from: some(), to: some()}
		for range min(r.Intn(19), r.Intn(6+k%13)) {
			x.s.Works = append(x.s.Works, stitch(r.Intn(max(1, min(x.s.Pairs-1, 23))), someWords[r.Intn(7)]))
		}
		if k%50 == 0 {
			x.s = different(50 + r.Intn(6))
		}
		if len(x.s.Works) > 0 && r.Intn(4) == 0 {
			x.s.Works[r.Intn(len(x.s.Works))] = api.Work{Kind: 1 + some(), At: some(), Word: []string{"", "CT", "x", "CTCTCTCTCTCTCTCTC"}[min(r.Intn(4), r.Intn(4))]}
		}
		const someBytes = "diagramletter |() \n\n09-A\xff\x00"
		bytes := make([]byte, r.Intn(60))
		for i := range bytes {
			bytes[i] = someBytes[r.Intn(len(someBytes))]
		}
		x.text = "diagram 3 1\nletter A CT\n"[:r.Intn(25)] + string(bytes) + "\n"[:r.Intn(2)]
		for _, name := range functions {
			got := x.run(name)
			met[name][got.e]++
			if want := x.judged(name); !got.equal(want) {
				t.Fatalf("%s of %v: %v, want %v", name, x, got, want)
			}
		}
	}
	for _, name := range functions {
		own := map[string][]api.Errno{"Letters": {api.ErrFull}, "Draw": {api.ErrFull}, "Cut": {api.ErrRange}}[name]
		if name != "Read" {
			own = append(own, api.OK, api.ErrArg, api.ErrLong)
		}
		for _, e := range append(own, api.ErrForm) {
			if met[name][e] < 50 {
				t.Errorf("%s: the error %d was met %d times", name, e, met[name][e])
			}
		}
	}
}

// P1 (R6): results depend on the arguments alone, also when many calls run at the same time.
func TestCallsAreIndependent(t *testing.T) {
	r := rand.New(rand.NewSource(7))
	var given []all
	for range 30 {
		s := someSheet(r, 2+r.Intn(23), r.Intn(80), 7)
		given = append(given, all{s, 0, r.Intn(4), textOf(s)})
	}
	look := func() []result {
		var l []result
		for _, x := range given {
			for _, name := range functions {
				l = append(l, x.run(name))
			}
		}
		return l
	}
	want := look()
	var group sync.WaitGroup
	for range 8 {
		group.Go(func() {
			for range 5 {
				if got := look(); !slices.EqualFunc(got, want, result.equal) {
					t.Error("results differ")
				}
			}
		})
	}
	group.Wait()
}
