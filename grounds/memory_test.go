package grounds_test

import (
	"math"
	"math/rand"
	"slices"
	"sync"
	"testing"

	"torchon/api"
	"torchon/grounds"
)

// A result is what a function returns.
type result struct {
	number int
	into   [2]api.GdStep
	rows   []int
	sheet  api.Sheet
	points []api.GrPoint
	e      api.Errno
}

func (r result) equal(s result) bool {
	return r.number == s.number && r.into == s.into && slices.Equal(r.rows, s.rows) && r.sheet.Pairs == s.sheet.Pairs && slices.Equal(r.sheet.Works, s.sheet.Works) && slices.Equal(r.points, s.points) && r.e == s.e
}

// empty reports whether there is nothing but an error.
func (r result) empty() bool { return r.equal(result{e: r.e}) }

// copied returns a result in new memory.
func (r result) copied() result {
	r.rows, r.points, r.sheet.Works = slices.Clone(r.rows), slices.Clone(r.points), slices.Clone(r.sheet.Works)
	return r
}

// spoil writes into all the memory of a result.
func (r result) spoil() {
	rows, works, points := r.rows[:cap(r.rows)], r.sheet.Works[:cap(r.sheet.Works)], r.points[:cap(r.points)]
	for i := range rows {
		rows[i] = -99
	}
	for i := range works {
		works[i] = api.Work{Kind: -99, At: -99, Word: "spoiled"}
	}
	for i := range points {
		points[i] = pt(-99, -99)
	}
}

// An all is what all functions are given.
type all struct {
	g       api.GdGround
	x, y, i int
	w       api.GdWindow
	skip    []api.GrPoint
}

var names = []string{"Check", "At", "Into", "Rows", "Cut"}

// run calls a function.
func (a all) run(name string) (r result) {
	switch name {
	case "Check":
		r.e = grounds.Check(a.g)
	case "At":
		r.number, r.e = grounds.At(a.g, a.x, a.y)
	case "Into":
		r.into, r.e = grounds.Into(a.g, a.i)
	case "Rows":
		r.rows, r.e = grounds.Rows(a.g)
	case "Cut":
		r.sheet, r.points, r.e = grounds.Cut(a.g, a.w, a.skip)
	}
	return r
}

// calls calls all functions with a ground, and otherwise with arguments of which none is valid.
func calls(g api.GdGround, call func(name string, r result)) {
	for _, name := range names {
		call(name, all{g: g, x: 1000001, i: -1, skip: make([]api.GrPoint, 401)}.run(name))
	}
}

// roomy returns a list with room behind it.
func roomy[T any](l ...T) []T { return append(make([]T, 0, len(l)+20), l...) }

// whole returns a list with what lies behind it in its memory, as new memory.
func whole[T any](l []T) []T { return slices.Clone(l[:cap(l)]) }

// P7.7 and P1 (R3): arguments are not modified, and results are new memory: what is written into one of them changes neither an argument nor another result.
func TestMemory(t *testing.T) {
	a := all{g: irregular(), x: 1, y: 3, i: 2, w: window(-3, -2, 6, 9), skip: roomy(pt(0, 0), pt(1, 3))}
	a.g.Nodes = roomy(a.g.Nodes...)
	nodes, skip := whole(a.g.Nodes), whole(a.skip)
	stays := func(name string) {
		t.Helper()
		if !slices.Equal(whole(a.g.Nodes), nodes) || !slices.Equal(whole(a.skip), skip) {
			t.Errorf("%s: the arguments become %v", name, a)
		}
	}
	for _, name := range names {
		first := a.run(name)
		want := first.copied()
		second := a.run(name)
		stays(name)
		first.spoil()
		stays(name)
		if third := a.run(name); first.e != api.OK || !second.equal(want) || !third.equal(want) {
			t.Errorf("%s: %v, %v and then %v", name, want, second, third)
		}
		// What is written into the arguments changes no result.
		a.g.Nodes[0].Word, a.skip[0] = "CLRT", pt(7, 7)
		if !second.equal(want) {
			t.Errorf("%s: %v becomes %v", name, want, second)
		}
		a.g.Nodes[0].Word, a.skip[0] = nodes[0].Word, skip[0]
	}
}

// P1 (R4): nil and empty lists mean the same.
func TestNilAndEmpty(t *testing.T) {
	s, points, e := grounds.Cut(torchon(), window(0, 0, 3, 3), nil)
	o, others, f := grounds.Cut(torchon(), window(0, 0, 3, 3), []api.GrPoint{})
	if e != api.OK || f != api.OK || !slices.Equal(s.Works, o.Works) || s.Pairs != o.Pairs || !slices.Equal(points, others) {
		t.Errorf("%v, %v, %d and %v, %v, %d", s, points, e, o, others, f)
	}
	for _, nodes := range [][]api.GdNode{nil, {}} {
		calls(ground(2, 1, 1, nodes...), func(name string, r result) {
			if r.e != api.ErrArg || !r.empty() {
				t.Errorf("%s without nodes: %v", name, r)
			}
		})
	}
}

// wild returns a number that is often at or beyond a limit.
func wild(r *rand.Rand, limit int) int {
	some := []int{0, 1, 2, -1, limit - 1, limit, limit + 1, -limit, -limit - 1, 1 << 31, math.MaxInt, math.MinInt}
	return some[min(r.Intn(len(some)), r.Intn(len(some)))]
}

// P7.7 and P1 (R1, R2): any arguments are accepted; errors come alone, and are those that the functions have.
func TestAnyArguments(t *testing.T) {
	r := rand.New(rand.NewSource(11))
	own := map[string][]api.Errno{
		"At":   {api.ErrRange, api.ErrNone},
		"Into": {api.ErrArg},
		"Cut":  {api.ErrRange, api.ErrLong, api.ErrNone, api.ErrTwice},
	}
	met := map[api.Errno]int{}
	manyGrounds(12, 2000, func(_ *rand.Rand, g api.GdGround) {
		a := all{g: g, x: wild(r, 1000000), y: wild(r, 1000000), i: wild(r, len(g.Nodes)), w: window(wild(r, 1000), wild(r, 1000), wild(r, 200), wild(r, 200))}
		if r.Intn(2) == 0 {
			a.w = window(0, 0, 1+r.Intn(30), 1+r.Intn(9))
		}
		for range r.Intn(4) {
			a.skip = append(a.skip, pt(int64(wild(r, 8)), int64(wild(r, 8))))
		}
		if r.Intn(2) == 0 {
			n := &g.Nodes[r.Intn(len(g.Nodes))]
			number := []*int{&a.g.W, &a.g.H, &a.g.Shift, &n.X, &n.Y, &n.Out[0].DX, &n.Out[0].DY, &n.Out[1].DX, &n.Out[1].DY}
			*number[r.Intn(len(number))] = wild(r, 8)
		}
		check := grounds.Check(a.g)
		for _, name := range names {
			got := a.run(name)
			met[got.e]++
			if got.e != api.OK && !got.empty() || check != api.OK && got.e != check || check == api.OK && got.e != api.OK && !slices.Contains(own[name], got.e) {
				t.Fatalf("%s of %v: %v, and Check returns %d", name, a, got, check)
			}
		}
	})
	for _, e := range []api.Errno{api.OK, api.ErrArg, api.ErrLong, api.ErrNone, api.ErrForm, api.ErrRange, api.ErrTwice} {
		if met[e] < 10 {
			t.Errorf("the error %d was met %d times", e, met[e])
		}
	}
}

// P1 (R6): results depend on the arguments alone, also when many calls run at the same time.
func TestCallsAreIndependent(t *testing.T) {
	var given []all
	manyGrounds(13, 10, func(r *rand.Rand, g api.GdGround) {
		given = append(given, all{g: g, x: r.Intn(99), y: r.Intn(99), w: window(r.Intn(9), r.Intn(9), 8, 8)})
	})
	look := func() []result {
		var l []result
		for _, a := range given {
			for _, name := range names {
				l = append(l, a.run(name))
			}
		}
		return l
	}
	want := look()
	var group sync.WaitGroup
	for range 8 {
		group.Go(func() {
			for range 5 {
				if got := look(); !slices.EqualFunc(got, want, result.equal) {
					t.Errorf("%v, then %v", want, got)
				}
			}
		})
	}
	group.Wait()
}
