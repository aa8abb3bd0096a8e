package assemble_test

import (
	"math"
	"math/rand"
	"slices"
	"strconv"
	"strings"
	"testing"

	"torchon/api"
	"torchon/assemble"
)

// column returns a sheet with so many works on so many pairs, all at the left.
func column(pairs, works int) api.Sheet {
	return api.Sheet{Pairs: pairs, Works: slices.Repeat([]api.Work{stitch(0, "CT")}, works)}
}

// P10.2: the examples of the chapter, and sheets that are written out.
func TestJoinsOfExamples(t *testing.T) {
	s, e := assemble.Beside(stitchesOf(2, "C@0"), stitchesOf(3, "T@1"))
	isSheet(t, "Beside", s, e, stitchesOf(5, "C@0 T@3"))
	s, e = assemble.Beside(stitchesOf(4, "C@2 @0 Lr@1"), stitchesOf(3, "@1 T@0"))
	isSheet(t, "Beside with sewings", s, e, stitchesOf(7, "C@2 @0 Lr@1 @5 T@4"))
	s, e = assemble.Below(stitchesOf(3, "C@1 @0"), stitchesOf(3, "T@0 @1 P@0"))
	isSheet(t, "Below", s, e, stitchesOf(3, "C@1 @0 T@0 @1 P@0"))
	s, e = assemble.Times(stitchesOf(3, "C@1 @0"), 3)
	isSheet(t, "Times", s, e, stitchesOf(3, "C@1 @0 C@1 @0 C@1 @0"))
	s, e = assemble.Times(column(2, 201), 2)
	isError(t, "Times of 201 works", s, e, api.ErrLong)
}

// P10.2: limits that are just reached, and just exceeded.
func TestJoinLimits(t *testing.T) {
	for i, x := range []struct {
		a, b api.Sheet
		want api.Errno
	}{
		{column(12, 1), column(12, 1), api.OK},
		{column(22, 1), column(2, 1), api.OK},
		{column(22, 1), column(3, 1), api.ErrLong},
		{column(2, 0), column(23, 0), api.ErrLong},
		{column(24, 0), column(2, 0), api.ErrLong},
		{column(24, 400), column(24, 400), api.ErrLong},
		{column(2, 200), column(2, 200), api.OK},
		{column(2, 400), column(5, 0), api.OK},
		{column(2, 0), column(5, 400), api.OK},
		{column(2, 200), column(2, 201), api.ErrLong},
		{column(2, 1), column(2, 400), api.ErrLong},
		{column(2, 400), column(2, 1), api.ErrLong},
		{column(2, 400), column(2, 400), api.ErrLong},
	} {
		want, error := besideOf(x.a, x.b)
		if error != x.want {
			t.Fatalf("%d: the judge says %d", i, error)
		}
		s, e := assemble.Beside(x.a, x.b)
		is(t, "Beside "+strconv.Itoa(i), s, e, want, error)
	}
	for i, x := range []struct {
		a, b api.Sheet
		want api.Errno
	}{
		{column(24, 200), column(24, 200), api.OK},
		{column(2, 400), column(2, 0), api.OK},
		{column(2, 0), column(2, 400), api.OK},
		{column(2, 0), column(2, 0), api.OK},
		{column(2, 400), column(2, 1), api.ErrLong},
		{column(2, 1), column(2, 400), api.ErrLong},
		{column(2, 400), column(2, 400), api.ErrLong},
		{column(2, 0), column(3, 0), api.ErrArg},
		{column(3, 1), column(2, 1), api.ErrArg},
		// Other pairs count before too many works.
		{column(3, 400), column(2, 400), api.ErrArg},
	} {
		want, error := belowOf(x.a, x.b)
		if error != x.want {
			t.Fatalf("%d: the judge says %d", i, error)
		}
		s, e := assemble.Below(x.a, x.b)
		is(t, "Below "+strconv.Itoa(i), s, e, want, error)
	}
}

// P10.2: how often a sheet may be made.
func TestTimes(t *testing.T) {
	for _, works := range []int{0, 1, 2, 3, 7, 199, 200, 201, 399, 400} {
		a := column(3, works)
		for n := -1; n <= 402; n++ {
			want, error := timesOf(a, n)
			s, e := assemble.Times(a, n)
			is(t, "Times "+strconv.Itoa(n)+" of "+strconv.Itoa(works), s, e, want, error)
		}
		for _, n := range []int{math.MinInt, math.MaxInt, 1 << 32, -1 << 32, 1 << 62, math.MaxInt/7 + 1} {
			s, e := assemble.Times(a, n)
			isError(t, "Times "+strconv.Itoa(n)+" of "+strconv.Itoa(works), s, e, api.ErrRange)
		}
	}
	for _, x := range []struct {
		works, n int
		want     api.Errno
	}{
		{0, 0, api.OK}, {0, 400, api.OK}, {400, 0, api.OK}, {400, 1, api.OK}, {1, 400, api.OK}, {200, 2, api.OK}, {20, 20, api.OK}, {3, 133, api.OK},
		{400, 2, api.ErrLong}, {400, 400, api.ErrLong}, {201, 2, api.ErrLong}, {2, 201, api.ErrLong}, {3, 134, api.ErrLong},
		// A wrong number counts before too many works.
		{0, 401, api.ErrRange}, {0, -1, api.ErrRange}, {1, 401, api.ErrRange}, {400, 401, api.ErrRange},
	} {
		s, e := assemble.Times(column(2, x.works), x.n)
		if e != x.want || e == api.OK && len(s.Works) != x.works*x.n {
			t.Errorf("Times %d of %d works: %d works, %d", x.n, x.works, len(s.Works), e)
		}
	}
}

// A wrong is a sheet that sheet.Check does not accept, and its error.
type wrong struct {
	s    api.Sheet
	want api.Errno
}

func badSheets() []wrong {
	return []wrong{
		{api.Sheet{}, api.ErrArg},
		{api.Sheet{Pairs: 1}, api.ErrArg},
		{api.Sheet{Pairs: math.MinInt}, api.ErrArg},
		{stitchesOf(3, "C@2"), api.ErrArg},
		{api.Sheet{Pairs: 3, Works: []api.Work{stitch(-1, "C")}}, api.ErrArg},
		{api.Sheet{Pairs: 3, Works: []api.Work{{Kind: 3}}}, api.ErrArg},
		{api.Sheet{Pairs: 3, Works: []api.Work{{Kind: api.WkSew, Word: "C"}}}, api.ErrArg},
		{stitchesOf(3, "C@0 x@1"), api.ErrForm},
		{api.Sheet{Pairs: 25}, api.ErrLong},
		{api.Sheet{Pairs: math.MaxInt}, api.ErrLong},
		{column(2, 401), api.ErrLong},
		{stitchesOf(3, strings.Repeat("C", 17)+"@0"), api.ErrLong},
	}
}

// P10.2: what is wrong with the first sheet, and then with the second one, counts before all other errors.
func TestJoinsOfBadSheets(t *testing.T) {
	good := []api.Sheet{column(2, 1), column(3, 400), column(24, 400)}
	joins := map[string]func(a, b api.Sheet) (api.Sheet, api.Errno){"Beside": assemble.Beside, "Below": assemble.Below}
	for name, join := range joins {
		for i, x := range badSheets() {
			for _, g := range good {
				s, e := join(x.s, g)
				isError(t, name+" with the first sheet "+strconv.Itoa(i), s, e, x.want)
				s, e = join(g, x.s)
				isError(t, name+" with the second sheet "+strconv.Itoa(i), s, e, x.want)
			}
			for k, y := range badSheets() {
				s, e := join(x.s, y.s)
				isError(t, name+" of the sheets "+strconv.Itoa(i)+" and "+strconv.Itoa(k), s, e, x.want)
			}
		}
	}
	for i, x := range badSheets() {
		for _, n := range []int{0, 1, -1, 400, 401} {
			s, e := assemble.Times(x.s, n)
			isError(t, "Times of the sheet "+strconv.Itoa(i), s, e, x.want)
		}
	}
}

// P10.2: many sheets that are joined, against the judge.
func TestManyJoins(t *testing.T) {
	met := map[api.Errno]int{}
	manySheets(2, 2000, func(r *rand.Rand, a api.Sheet) {
		b := someSheet(r, 2+r.Intn(23), r.Intn(30))
		if r.Intn(2) == 0 {
			b = someSheet(r, a.Pairs, r.Intn(30))
		}
		want, error := besideOf(a, b)
		s, e := assemble.Beside(a, b)
		is(t, "Beside", s, e, want, error)
		met[e]++
		want, error = belowOf(a, b)
		s, e = assemble.Below(a, b)
		is(t, "Below", s, e, want, error)
		met[e]++
		n := []int{r.Intn(5) - 1, r.Intn(20), 398 + r.Intn(5)}[r.Intn(3)]
		want, error = timesOf(a, n)
		s, e = assemble.Times(a, n)
		is(t, "Times", s, e, want, error)
		met[e]++
	})
	for _, e := range []api.Errno{api.OK, api.ErrArg, api.ErrLong, api.ErrRange} {
		if met[e] < 10 {
			t.Errorf("the error %d was met %d times", e, met[e])
		}
	}
}
