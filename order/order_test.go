package order_test

import (
	"math"
	"slices"
	"testing"

	"torchon/api"
	"torchon/order"
)

// example is the sheet of the chapter's examples.
func example() api.Sheet {
	return api.Sheet{Pairs: 4, Works: []api.Work{stitch(0, "CTC"), stitch(2, "CTC"), stitch(1, "CTC"), stitch(0, "CTC")}}
}

// apart returns a sheet with n works that do not touch, up to 12.
func apart(n int) api.Sheet {
	var at []int
	for i := range n {
		at = append(at, 2*i)
	}
	return sheetOf(24, at...)
}

// same returns a sheet with n works in the same places.
func same(n int) api.Sheet { return sheetOf(2, make([]int, n)...) }

// chain returns wishes for n works from the work first on, one after the other, in steps of by.
func chain(first, by, n int) [][2]int {
	var wishes [][2]int
	for k := range n - 1 {
		wishes = append(wishes, [2]int{first + k*by, first + (k+1)*by})
	}
	return wishes
}

// fan returns wishes for a work before each of the works from first to last.
func fan(work, first, last int) [][2]int {
	var wishes [][2]int
	for i := first; i <= last; i++ {
		wishes = append(wishes, [2]int{work, i})
	}
	return wishes
}

// checkLeast compares Least and Cycle with what they should be: one of both is nil.
func checkLeast(t *testing.T, s api.Sheet, wishes [][2]int, least, cycle []int) {
	t.Helper()
	wantLeast, wantCycle := api.OK, api.ErrNone
	if cycle != nil {
		wantLeast, wantCycle = order.ErrCircle, api.OK
	}
	if l, e := order.Least(s, wishes); e != wantLeast || !slices.Equal(l, least) {
		t.Fatalf("Least of %v, %v: %v, %d, want %v, %d", s, wishes, l, e, least, wantLeast)
	}
	if l, e := order.Cycle(s, wishes); e != wantCycle || !slices.Equal(l, cycle) {
		t.Fatalf("Cycle of %v, %v: %v, %d, want %v, %d", s, wishes, l, e, cycle, wantCycle)
	}
}

// The error has the number that the document gives it.
func TestNumberOfError(t *testing.T) {
	if order.ErrCircle != 130 {
		t.Errorf("ErrCircle is %d", order.ErrCircle)
	}
}

// P13.1 and the chapter's examples: Least and Cycle.
func TestLeastAndCycle(t *testing.T) {
	for _, c := range []struct {
		s            api.Sheet
		wishes       [][2]int
		least, cycle []int
	}{
		{example(), nil, []int{0, 1, 2, 3}, nil},
		{example(), [][2]int{{1, 0}}, []int{1, 0, 2, 3}, nil},
		{example(), [][2]int{{3, 1}}, nil, []int{1, 2, 3}},
		{example(), [][2]int{{1, 0}, {0, 1}}, nil, []int{0, 1}},
		{api.Sheet{Pairs: 2}, nil, nil, nil},
		{api.Sheet{Pairs: 24, Works: []api.Work{}}, [][2]int{}, nil, nil},
		{sheetOf(2, 0), nil, []int{0}, nil},
		{sheetOf(24, 22), [][2]int{}, []int{0}, nil},
		// A wish that the sheet fulfils, or that is there twice, changes nothing.
		{example(), [][2]int{{0, 2}, {0, 3}, {0, 1}}, []int{0, 1, 2, 3}, nil},
		{example(), [][2]int{{1, 0}, {1, 0}, {1, 0}}, []int{1, 0, 2, 3}, nil},
		// Works that touch are in their order, also beside each other by one place.
		{sheetOf(3, 1, 0), [][2]int{{1, 0}}, nil, []int{0, 1}},
		{sheetOf(3, 0, 1), [][2]int{{1, 0}}, nil, []int{0, 1}},
		{sheetOf(2, 0, 0), [][2]int{{1, 0}}, nil, []int{0, 1}},
		{sheetOf(4, 0, 2), [][2]int{{1, 0}}, []int{1, 0}, nil},
		{sheetOf(4, 2, 0), [][2]int{{1, 0}}, []int{1, 0}, nil},
		{sheetOf(4, 2, 0), nil, []int{0, 1}, nil},
		// A work that can be made is not left for a greater one, though others wait.
		{sheetOf(10, 0, 2, 4, 6, 8), [][2]int{{4, 0}, {3, 1}}, []int{2, 3, 1, 4, 0}, nil},
		{sheetOf(10, 0, 2, 4, 6, 8), [][2]int{{4, 0}, {0, 1}, {1, 2}}, []int{3, 4, 0, 1, 2}, nil},
		{sheetOf(10, 0, 2, 4, 6, 8), [][2]int{{4, 3}, {3, 2}, {2, 1}, {1, 0}}, []int{4, 3, 2, 1, 0}, nil},
		// A work comes directly before all that it touches, not only before the next one in a place.
		{same(3), [][2]int{{2, 0}}, nil, []int{0, 2}},
		{sheetOf(4, 0, 1, 2, 1, 0), [][2]int{{4, 0}}, nil, []int{0, 4}},
		// It does not come directly before those that it is only before.
		{sheetOf(4, 0, 1, 2), [][2]int{{2, 0}}, nil, []int{0, 1, 2}},
		{sheetOf(6, 0, 1, 2, 3, 4), [][2]int{{4, 0}}, nil, []int{0, 1, 2, 3, 4}},
		{sheetOf(6, 0, 1, 2, 3, 4), [][2]int{{4, 0}, {0, 3}}, nil, []int{0, 3, 4}},
		// The cycle with the fewest works, also if others have lesser ones; of several the least list, which begins with its least work.
		{sheetOf(12, 0, 2, 4, 6, 8, 10), [][2]int{{0, 1}, {1, 2}, {2, 0}, {4, 3}, {3, 4}}, nil, []int{3, 4}},
		{sheetOf(12, 0, 2, 4, 6, 8, 10), [][2]int{{5, 3}, {3, 4}, {4, 5}, {2, 1}, {1, 0}, {0, 2}}, nil, []int{0, 2, 1}},
		{sheetOf(12, 0, 2, 4, 6, 8, 10), [][2]int{{5, 3}, {3, 4}, {4, 5}, {2, 0}, {1, 0}, {0, 3}}, nil, []int{3, 4, 5}},
		{sheetOf(12, 0, 2, 4, 6, 8, 10), [][2]int{{0, 5}, {5, 4}, {4, 0}, {0, 3}, {3, 4}}, nil, []int{0, 3, 4}},
		{sheetOf(12, 0, 2, 4, 6, 8, 10), [][2]int{{0, 1}, {1, 5}, {5, 0}, {1, 4}, {4, 0}, {0, 2}, {2, 3}, {3, 1}}, nil, []int{0, 1, 4}},
		// The least work that can be next leads back, but not with the fewest works.
		{sheetOf(12, 0, 2, 4, 6, 8, 10), [][2]int{{0, 1}, {1, 2}, {2, 3}, {3, 0}, {0, 4}, {4, 5}, {5, 0}}, nil, []int{0, 4, 5}},
		{sheetOf(12, 0, 2, 4, 6, 8, 10), [][2]int{{0, 2}, {2, 1}, {1, 3}, {3, 0}, {2, 4}, {4, 3}, {2, 5}, {5, 0}}, nil, []int{0, 2, 5}},
	} {
		checkLeast(t, c.s, c.wishes, c.least, c.cycle)
	}
}

// P13.1: the limits of sheets just reached: 400 works, and a cycle of 200 of them, which 200 wishes make.
func TestLargest(t *testing.T) {
	checkLeast(t, same(400), nil, upTo(400), nil)
	checkLeast(t, same(400), [][2]int{{399, 0}}, nil, []int{0, 399})
	checkLeast(t, same(400), slices.Repeat([][2]int{{0, 399}}, 200), upTo(400), nil)
	checkLeast(t, same(400), [][2]int{{399, 398}}, nil, []int{398, 399})
	// Two columns of 200 works: all of the right one after, or before, all of the left one.
	at := slices.Concat(make([]int, 200), slices.Repeat([]int{2}, 200))
	checkLeast(t, sheetOf(4, at...), [][2]int{{199, 200}}, upTo(400), nil)
	checkLeast(t, sheetOf(4, at...), [][2]int{{399, 0}}, append(upTo(400)[200:], upTo(200)...), nil)
	checkLeast(t, sheetOf(4, at...), [][2]int{{399, 0}, {199, 200}}, nil, []int{0, 199, 200, 399})
	// Works that go from side to side, and touch the next one alone.
	var stair []int
	for k := range 23 {
		stair = append(stair, k)
	}
	checkLeast(t, sheetOf(24, stair...), [][2]int{{22, 0}}, nil, upTo(23))
	// Works that are far apart wait for each other.
	at = slices.Concat(slices.Repeat([]int{0}, 132), slices.Repeat([]int{4}, 134), slices.Repeat([]int{8}, 134))
	checkLeast(t, sheetOf(10, at...), [][2]int{{65, 266}, {399, 132}, {265, 0}}, nil, []int{0, 65, 266, 399, 132, 265})
	checkLeast(t, sheetOf(10, at...), [][2]int{{131, 399}, {399, 132}}, append(upTo(132), append(upTo(400)[266:], upTo(266)[132:]...)...), nil)
}

// P13.1: cycles of many works that do not touch: each needs a wish.
func TestLongCycles(t *testing.T) {
	all := slices.Concat(chain(0, 1, 12), [][2]int{{11, 0}})
	checkLeast(t, apart(12), all, nil, upTo(12))
	checkLeast(t, apart(12), all[:11], upTo(12), nil)
	checkLeast(t, apart(12), all[1:], append(upTo(12)[1:], 0), nil)
	back := slices.Concat(chain(11, -1, 12), [][2]int{{0, 11}})
	checkLeast(t, apart(12), back, nil, []int{0, 11, 10, 9, 8, 7, 6, 5, 4, 3, 2, 1})
}

// P13.1 to P13.3: ErrLong for more than 200 wishes, then ErrArg for what is none, both before the errors of the functions.
func TestWishes(t *testing.T) {
	many := func(n int, w [2]int) [][2]int { return slices.Repeat([][2]int{w}, n) }
	all := []api.Sheet{example(), {Pairs: 2}, same(13), same(17), apart(12), same(400)}
	for _, c := range []struct {
		wishes func(works int) [][2]int
		want   api.Errno
	}{
		{func(n int) [][2]int { return [][2]int{{0, n}} }, api.ErrArg},
		{func(n int) [][2]int { return [][2]int{{n, 0}} }, api.ErrArg},
		{func(n int) [][2]int { return [][2]int{{-1, 0}} }, api.ErrArg},
		{func(n int) [][2]int { return [][2]int{{0, -1}} }, api.ErrArg},
		{func(n int) [][2]int { return [][2]int{{0, 0}} }, api.ErrArg},
		{func(n int) [][2]int { return [][2]int{{n - 1, n - 1}} }, api.ErrArg},
		{func(n int) [][2]int { return [][2]int{{math.MinInt, math.MaxInt}} }, api.ErrArg},
		{func(n int) [][2]int { return [][2]int{{math.MaxInt, math.MaxInt}} }, api.ErrArg},
		// With a cycle as well, and as the last ones.
		{func(n int) [][2]int { return [][2]int{{0, 1}, {1, 0}, {1, 1}} }, api.ErrArg},
		{func(n int) [][2]int { return append(many(199, [2]int{0, 1}), [2]int{0, n}) }, api.ErrArg},
		{func(n int) [][2]int { return append([][2]int{{n, 1}}, many(199, [2]int{0, 1})...) }, api.ErrArg},
		{func(n int) [][2]int { return many(201, [2]int{0, 1}) }, api.ErrLong},
		{func(n int) [][2]int { return many(201, [2]int{0, 0}) }, api.ErrLong},
		{func(n int) [][2]int { return many(201, [2]int{-1, n}) }, api.ErrLong},
		{func(n int) [][2]int { return append(many(200, [2]int{1, 0}), [2]int{0, n}) }, api.ErrLong},
		{func(n int) [][2]int { return many(1000, [2]int{0, 1}) }, api.ErrLong},
	} {
		for _, s := range all {
			wishes := c.wishes(len(s.Works))
			for _, name := range functions[1:] {
				for _, l := range [][]int{upTo(len(s.Works)), {-1}} {
					if r := run(name, s, wishes, l); !r.equal(result{e: c.want}) {
						t.Errorf("%s of %d works with the wishes %v: %v, want the error %d alone", name, len(s.Works), wishes, r, c.want)
					}
				}
			}
		}
	}
	// 200 wishes are not too many.
	two := [][2]int{{1, 0}, {1, 2}}
	checkLeast(t, example(), slices.Repeat(two, 100), []int{1, 0, 2, 3}, nil)
	checkNear(t, example(), slices.Repeat(two, 100), []int{1, 0, 2, 3}, 1)
	if n, e := order.Count(example(), slices.Repeat(two, 100)); e != api.OK || n != 1 {
		t.Errorf("Count with 200 wishes: %d, %d", n, e)
	}
	if l, e := order.Next(example(), slices.Repeat(two, 100), []int{1, 0, 2, 3}); e != api.ErrDown || len(l) > 0 {
		t.Errorf("Next with 200 wishes: %v, %d", l, e)
	}
}

// P13.2: Aside, with all its errors.
func TestAside(t *testing.T) {
	for _, c := range []struct {
		s     api.Sheet
		order []int
		want  int
		e     api.Errno
	}{
		{example(), []int{0, 1, 2, 3}, 1, api.OK},
		{example(), []int{1, 0, 2, 3}, 1, api.OK},
		{api.Sheet{Pairs: 2}, nil, 0, api.OK},
		{api.Sheet{Pairs: 24}, []int{}, 0, api.OK},
		{sheetOf(24, 22), []int{0}, 0, api.OK},
		{sheetOf(3, 0, 1, 0), []int{0, 1, 2}, 0, api.OK},
		{sheetOf(4, 0, 2), []int{0, 1}, 1, api.OK},
		{sheetOf(4, 0, 2), []int{1, 0}, 1, api.OK},
		{sheetOf(3, 1, 0), []int{0, 1}, 0, api.OK},
		{sheetOf(6, 0, 4, 0, 4), []int{0, 1, 2, 3}, 3, api.OK},
		{sheetOf(6, 0, 4, 0, 4), []int{0, 2, 1, 3}, 1, api.OK},
		{sheetOf(6, 0, 4, 0, 4), []int{1, 0, 2, 3}, 2, api.OK},
		// A work that touches an earlier one, but not the one before it, is a step aside.
		{sheetOf(6, 0, 2, 1, 4, 2), []int{0, 1, 2, 3, 4}, 3, api.OK},
		{sheetOf(6, 0, 2, 1, 4, 2), []int{0, 1, 2, 4, 3}, 2, api.OK},
		{apart(12), upTo(12), 11, api.OK},
		{same(400), upTo(400), 0, api.OK},
		{sheetOf(4, slices.Repeat([]int{0, 2}, 200)...), upTo(400), 399, api.OK},
		{example(), nil, 0, api.ErrNone},
		{example(), []int{0, 1, 2}, 0, api.ErrNone},
		{example(), []int{0, 1, 2, 3, 3}, 0, api.ErrNone},
		{example(), []int{0, 1, 2, 2}, 0, api.ErrNone},
		{example(), []int{0, 1, 2, 4}, 0, api.ErrNone},
		{example(), []int{0, 1, 2, -1}, 0, api.ErrNone},
		{example(), []int{0, 2, 1, 3}, 0, api.ErrNone},
		{example(), []int{3, 2, 1, 0}, 0, api.ErrNone},
		{sheetOf(4, 0, 1, 2), []int{2, 0, 1}, 0, api.ErrNone},
		{api.Sheet{Pairs: 2}, []int{0}, 0, api.ErrNone},
		{example(), []int{math.MinInt, 1, 2, math.MaxInt}, 0, api.ErrNone},
		{same(400), append(upTo(398), 399, 398), 0, api.ErrNone},
	} {
		if n, e := order.Aside(c.s, c.order); n != c.want || e != c.e {
			t.Errorf("Aside of %v, %v: %d, %d, want %d, %d", c.s, c.order, n, e, c.want, c.e)
		}
	}
}

// checkNear compares Near with what it should be; nil if there is a cycle.
func checkNear(t *testing.T, s api.Sheet, wishes [][2]int, want []int, aside int) {
	t.Helper()
	e := api.OK
	if want == nil {
		e = order.ErrCircle
	}
	if l, n, f := order.Near(s, wishes); f != e || n != aside || !slices.Equal(l, want) {
		t.Fatalf("Near of %v, %v: %v, %d, %d, want %v, %d, %d", s, wishes, l, n, f, want, aside, e)
	}
}

// P13.2 and the chapter's example: Near.
func TestNear(t *testing.T) {
	for _, c := range []struct {
		s      api.Sheet
		wishes [][2]int
		want   []int
		aside  int
	}{
		{example(), nil, []int{0, 1, 2, 3}, 1},
		{example(), [][2]int{{1, 0}}, []int{1, 0, 2, 3}, 1},
		{example(), [][2]int{{3, 1}}, nil, 0},
		{api.Sheet{Pairs: 2}, nil, []int{}, 0},
		{sheetOf(24, 22), nil, []int{0}, 0},
		{sheetOf(6, 0, 4, 0, 4), nil, []int{0, 2, 1, 3}, 1},
		{sheetOf(6, 0, 4, 0, 4), [][2]int{{1, 2}}, []int{1, 3, 0, 2}, 1},
		{sheetOf(6, 0, 4, 0, 4), [][2]int{{1, 2}, {2, 3}}, []int{1, 0, 2, 3}, 2},
		{sheetOf(6, 0, 4, 0, 4), [][2]int{{0, 1}, {1, 2}, {2, 3}}, []int{0, 1, 2, 3}, 3},
		{sheetOf(6, 0, 4, 0, 4), [][2]int{{1, 2}, {0, 3}}, []int{0, 1, 3, 2}, 2},
		{sheetOf(6, 0, 4, 0, 4), [][2]int{{1, 2}, {2, 1}}, nil, 0},
		{sheetOf(5, 0, 3, 1, 2), nil, []int{0, 2, 1, 3}, 1},
		// It does not begin with the least work that can be the first one.
		{sheetOf(5, 0, 3, 0, 2), [][2]int{{1, 2}}, []int{1, 3, 0, 2}, 1},
		{sheetOf(6, 0, 4, 3, 2, 1), nil, []int{0, 1, 2, 3, 4}, 1},
		{sheetOf(6, 4, 0, 2, 3, 1), nil, []int{0, 2, 3, 1, 4}, 2},
		{sheetOf(8, 0, 6, 2, 5, 1, 4), nil, []int{0, 1, 3, 5, 2, 4}, 2},
		{same(12), nil, upTo(12), 0},
		{apart(12), nil, upTo(12), 11},
		{apart(12), chain(11, -1, 12), []int{11, 10, 9, 8, 7, 6, 5, 4, 3, 2, 1, 0}, 11},
		{sheetOf(4, 0, 2, 0, 2, 0, 2, 0, 2, 0, 2, 0, 2), nil, []int{0, 2, 4, 6, 8, 10, 1, 3, 5, 7, 9, 11}, 1},
		{sheetOf(4, 0, 2, 0, 2, 0, 2, 0, 2, 0, 2, 0, 2), [][2]int{{9, 4}}, []int{1, 3, 5, 7, 9, 11, 0, 2, 4, 6, 8, 10}, 1},
		{sheetOf(4, 0, 2, 0, 2, 0, 2, 0, 2, 0, 2, 0, 2), [][2]int{{9, 4}, {4, 11}}, []int{1, 3, 5, 7, 9, 0, 2, 4, 6, 8, 10, 11}, 2},
		{sheetOf(4, 0, 2, 0, 2, 0, 2, 0, 2, 0, 2, 0, 2), [][2]int{{9, 4}, {4, 11}, {0, 1}}, []int{0, 1, 3, 5, 7, 9, 2, 4, 6, 8, 10, 11}, 3},
	} {
		checkNear(t, c.s, c.wishes, c.want, c.aside)
	}
}

// P13.2 and P13.3: ErrLong for too many works, before ErrCircle and ErrFull.
func TestTooManyWorks(t *testing.T) {
	for _, n := range []int{13, 14, 16, 17, 63, 64, 65, 399, 400} {
		for _, s := range []api.Sheet{same(n), sheetOf(24, slices.Repeat([]int{0, 2, 4, 6, 22}, 80)[:n]...)} {
			for _, wishes := range [][][2]int{nil, {{0, 1}}, {{1, 0}, {0, 1}}} {
				if l, aside, e := order.Near(s, wishes); e != api.ErrLong || aside != 0 || len(l) > 0 {
					t.Errorf("Near of %d works: %v, %d, %d", n, l, aside, e)
				}
				if many, e := order.Count(s, wishes); n > 16 && (e != api.ErrLong || many != 0) {
					t.Errorf("Count of %d works: %d, %d", n, many, e)
				}
			}
		}
	}
}

// P13.3 and the chapter's example: Count.
func TestCount(t *testing.T) {
	sixteen := sheetOf(24, 0, 2, 4, 6, 8, 10, 12, 14, 16, 18, 20, 22, 0, 4, 8, 12)
	for _, c := range []struct {
		s      api.Sheet
		wishes [][2]int
		want   int64
		e      api.Errno
	}{
		{example(), nil, 2, api.OK},
		{example(), [][2]int{{1, 0}}, 1, api.OK},
		{example(), [][2]int{{3, 0}}, 0, api.OK},
		{api.Sheet{Pairs: 2}, nil, 1, api.OK},
		{sheetOf(2, 0), nil, 1, api.OK},
		{sheetOf(6, 0, 2, 4), nil, 6, api.OK},
		{sheetOf(6, 0, 2, 4), [][2]int{{2, 0}}, 3, api.OK},
		{sheetOf(6, 0, 2, 4), [][2]int{{2, 0}, {2, 1}}, 2, api.OK},
		{sheetOf(6, 0, 2, 4), [][2]int{{2, 0}, {0, 1}, {1, 2}}, 0, api.OK},
		{sheetOf(6, 0, 2, 4, 0, 2, 4), nil, 90, api.OK},
		{same(16), nil, 1, api.OK},
		{same(16), [][2]int{{15, 0}}, 0, api.OK},
		{apart(12), nil, 479001600, api.OK},
		{apart(12), [][2]int{{11, 0}}, 239500800, api.OK},
		// More works than 12 have 12! orders times the number of ways to put another one in; a wish that halves them brings them below the limit.
		{sheetOf(24, 0, 2, 4, 6, 8, 10, 12, 14, 16, 18, 20, 22, 0), nil, 0, api.ErrFull},
		{sheetOf(24, 0, 2, 4, 6, 8, 10, 12, 14, 16, 18, 20, 22, 0), [][2]int{{12, 11}, {10, 9}}, 518918400, api.OK},
		{sixteen, nil, 0, api.ErrFull},
		{sixteen, chain(0, 1, 12), 9720, api.OK},
		// With a cycle there is none, though there are many ways to begin.
		{sixteen, [][2]int{{12, 0}}, 0, api.OK},
		{sixteen, [][2]int{{15, 14}, {14, 15}}, 0, api.OK},
		{sheetOf(24, 0, 2, 4, 6, 8, 10, 12, 14, 16, 18, 20, 22, 0, 0, 0), [][2]int{{14, 12}}, 0, api.OK},
		// 12 works after two others: with one of these two they would have too many orders.
		{sheetOf(24, 0, 0, 0, 2, 4, 6, 8, 10, 12, 14, 16, 18, 20, 22), fan(1, 3, 13), 479001600, api.OK},
		{sheetOf(4, slices.Repeat([]int{0, 2}, 8)...), nil, 12870, api.OK},
	} {
		if n, e := order.Count(c.s, c.wishes); n != c.want || e != c.e {
			t.Errorf("Count of %v, %v: %d, %d, want %d, %d", c.s, c.wishes, n, e, c.want, c.e)
		}
	}
}

// P13.3: the limit of Count just reached, 10^9 orders, and just exceeded, by as few as a search found.
func TestAsManyOrdersAsMayBe(t *testing.T) {
	for _, c := range []struct {
		at     []int
		wishes [][2]int
		many   int64
		want   int64
		e      api.Errno
	}{
		{[]int{14, 2, 9, 6, 10, 8, 6, 20, 7, 14, 18, 20, 20, 16, 0, 1}, [][2]int{{10, 4}, {12, 10}, {7, 14}, {7, 9}, {3, 4}, {11, 8}}, 1000000000, 1000000000, api.OK},
		{[]int{0, 17, 20, 0, 4, 11, 2, 16, 16, 10, 15, 2, 14, 18, 19, 1}, [][2]int{{7, 15}, {0, 12}, {1, 9}, {6, 12}}, 1000000000, 1000000000, api.OK},
		{[]int{10, 15, 10, 0, 13, 2, 11, 10, 3, 16, 16, 0, 8, 1, 19, 14}, [][2]int{{7, 15}, {0, 14}, {12, 10}, {2, 13}, {12, 15}}, 1000000026, 0, api.ErrFull},
	} {
		s := sheetOf(24, c.at...)
		if many := countOf(directly(s, c.wishes)); many != c.many {
			t.Errorf("%v, %v have %d orders, not %d", s, c.wishes, many, c.many)
		}
		if n, e := order.Count(s, c.wishes); n != c.want || e != c.e {
			t.Errorf("Count of %v, %v: %d, %d, want %d, %d", s, c.wishes, n, e, c.want, c.e)
		}
	}
}

// P13.3 and the chapter's example: Next, with all its errors.
func TestNext(t *testing.T) {
	three := sheetOf(6, 0, 2, 4)
	for _, c := range []struct {
		s           api.Sheet
		wishes      [][2]int
		order, want []int
		e           api.Errno
	}{
		{example(), nil, []int{0, 1, 2, 3}, []int{1, 0, 2, 3}, api.OK},
		{example(), nil, []int{1, 0, 2, 3}, nil, api.ErrDown},
		{api.Sheet{Pairs: 2}, nil, nil, nil, api.ErrDown},
		{api.Sheet{Pairs: 2}, [][2]int{}, []int{}, nil, api.ErrDown},
		{sheetOf(2, 0), nil, []int{0}, nil, api.ErrDown},
		{three, nil, []int{0, 1, 2}, []int{0, 2, 1}, api.OK},
		{three, nil, []int{0, 2, 1}, []int{1, 0, 2}, api.OK},
		{three, nil, []int{1, 0, 2}, []int{1, 2, 0}, api.OK},
		{three, nil, []int{1, 2, 0}, []int{2, 0, 1}, api.OK},
		{three, nil, []int{2, 0, 1}, []int{2, 1, 0}, api.OK},
		{three, nil, []int{2, 1, 0}, nil, api.ErrDown},
		{three, [][2]int{{1, 2}}, []int{0, 1, 2}, []int{1, 0, 2}, api.OK},
		{three, [][2]int{{1, 2}}, []int{1, 2, 0}, nil, api.ErrDown},
		{three, [][2]int{{2, 1}, {1, 0}}, []int{2, 1, 0}, nil, api.ErrDown},
		// No order, or none that respects the wishes.
		{example(), nil, []int{0, 2, 1, 3}, nil, api.ErrNone},
		{example(), nil, nil, nil, api.ErrNone},
		{example(), nil, []int{0, 1, 2}, nil, api.ErrNone},
		{example(), nil, []int{0, 1, 2, 2}, nil, api.ErrNone},
		{example(), nil, []int{0, 0, 1, 2}, nil, api.ErrNone},
		{example(), nil, []int{0, 1, 2, 3, 3}, nil, api.ErrNone},
		{example(), nil, []int{0, 1, 2, 3, 4}, nil, api.ErrNone},
		{example(), nil, []int{0, 1, 2, 4}, nil, api.ErrNone},
		{example(), nil, []int{-1, 0, 1, 2}, nil, api.ErrNone},
		{example(), nil, []int{math.MaxInt, 1, 2, math.MinInt}, nil, api.ErrNone},
		{api.Sheet{Pairs: 2}, nil, []int{0}, nil, api.ErrNone},
		{example(), [][2]int{{1, 0}}, []int{0, 1, 2, 3}, nil, api.ErrNone},
		{three, [][2]int{{2, 0}}, []int{1, 0, 2}, nil, api.ErrNone},
		// With a cycle no order respects the wishes.
		{example(), [][2]int{{3, 0}}, []int{0, 1, 2, 3}, nil, api.ErrNone},
		{three, [][2]int{{0, 1}, {1, 0}}, []int{0, 1, 2}, nil, api.ErrNone},
		{three, [][2]int{{0, 1}, {1, 0}}, nil, nil, api.ErrNone},
		// As much as can stay at the beginning stays, and the rest is the least.
		{sheetOf(10, 0, 2, 4, 6, 8), nil, []int{0, 4, 3, 2, 1}, []int{1, 0, 2, 3, 4}, api.OK},
		{sheetOf(10, 0, 2, 4, 6, 8), [][2]int{{4, 1}}, []int{0, 4, 3, 2, 1}, []int{2, 0, 3, 4, 1}, api.OK},
		{sheetOf(10, 0, 2, 4, 6, 8), [][2]int{{4, 1}, {1, 2}}, []int{0, 3, 4, 1, 2}, []int{0, 4, 1, 2, 3}, api.OK},
		{same(400), nil, upTo(400), nil, api.ErrDown},
		{same(400), nil, append(upTo(398), 399, 398), nil, api.ErrNone},
		{sheetOf(4, append(make([]int, 399), 2)...), nil, upTo(400), append(upTo(398), 399, 398), api.OK},
		{sheetOf(4, append(make([]int, 399), 2)...), nil, append([]int{399}, upTo(399)...), nil, api.ErrDown},
		{sheetOf(4, append([]int{2}, make([]int, 399)...)...), nil, upTo(400), append(upTo(400)[1:2], append([]int{0}, upTo(400)[2:]...)...), api.OK},
	} {
		if l, e := order.Next(c.s, c.wishes, c.order); e != c.e || !slices.Equal(l, c.want) {
			t.Errorf("Next of %v, %v, %v: %v, %d, want %v, %d", c.s, c.wishes, c.order, l, e, c.want, c.e)
		}
	}
}
