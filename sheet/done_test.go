package sheet_test

import (
	"math"
	"math/rand"
	"slices"
	"testing"

	"torchon/api"
	"torchon/sheet"
)

// P4.3 and the chapter's examples: Line and Ready, with all their errors.
func TestLineAndReady(t *testing.T) {
	four := sheetOf(4, 0, 2, 1, 0, 2, 1)
	for _, c := range []struct {
		s                 api.Sheet
		done, line, ready []int
		want              api.Errno
	}{
		{example(), []int{0}, []int{3, 4, 2}, []int{1}, api.OK},
		{example(), nil, []int{0, 1, 2}, []int{0}, api.OK},
		{example(), []int{0, 1}, []int{3, 5, 6}, []int{2}, api.OK},
		{example(), []int{0, 1, 2}, []int{7, 8, 6}, nil, api.OK},
		{example(), []int{1}, nil, nil, api.ErrNone},
		{example(), []int{2}, nil, nil, api.ErrNone},
		{example(), []int{0, 2}, nil, nil, api.ErrNone},
		{example(), []int{1, 2}, nil, nil, api.ErrNone},
		{example(), []int{-1}, nil, nil, api.ErrArg},
		{example(), []int{3}, nil, nil, api.ErrArg},
		{example(), []int{0, 1, 2, 3}, nil, nil, api.ErrArg},
		{example(), []int{0, 0}, nil, nil, api.ErrArg},
		{example(), []int{1, 0}, nil, nil, api.ErrArg},
		{example(), []int{0, 1, 1}, nil, nil, api.ErrArg},
		{example(), []int{2, 1, 0}, nil, nil, api.ErrArg},
		{example(), []int{math.MaxInt}, nil, nil, api.ErrArg},
		{example(), []int{math.MinInt, 0}, nil, nil, api.ErrArg},
		// Of several errors the first one counts.
		{example(), []int{1, 3}, nil, nil, api.ErrArg},
		{example(), []int{2, 1}, nil, nil, api.ErrArg},
		{example(), []int{-1, 2}, nil, nil, api.ErrArg},
		{four, nil, []int{0, 1, 2, 3}, []int{0, 1}, api.OK},
		{four, []int{1}, []int{0, 1, 6, 7}, []int{0}, api.OK},
		{four, []int{0, 1}, []int{4, 5, 6, 7}, []int{2}, api.OK},
		{four, []int{0, 1, 2}, []int{4, 8, 9, 7}, []int{3, 4}, api.OK},
		{four, []int{0, 1, 2, 4}, []int{4, 8, 12, 13}, []int{3}, api.OK},
		{four, []int{0, 1, 2, 3, 4}, []int{10, 11, 12, 13}, []int{5}, api.OK},
		{four, []int{0, 1, 2, 3, 4, 5}, []int{10, 14, 15, 13}, nil, api.OK},
		{four, []int{0, 1, 2, 5}, nil, nil, api.ErrNone},
		// Works that are ready are sorted by their indices, not by their places.
		{sheetOf(6, 4, 0, 2), nil, []int{0, 1, 2, 3, 4, 5}, []int{0, 1, 2}, api.OK},
		{api.Sheet{Pairs: 2}, nil, []int{0, 1}, nil, api.OK},
		{api.Sheet{Pairs: 2}, []int{0}, nil, nil, api.ErrArg},
	} {
		if l, e := sheet.Line(c.s, c.done); e != c.want || !slices.Equal(l, c.line) {
			t.Errorf("Line of %v after %v: %v, %d", c.s, c.done, l, e)
		}
		if l, e := sheet.Ready(c.s, c.done); e != c.want || !slices.Equal(l, c.ready) {
			t.Errorf("Ready of %v after %v: %v, %d", c.s, c.done, l, e)
		}
	}
}

// lineAfter returns the line after some works: in each place, the edge of the last work that takes it.
func lineAfter(s api.Sheet, done []int) []int {
	var line []int
	for place := range s.Pairs {
		edge := place
		for _, i := range done {
			if hasPlace(s.Works[i], place) {
				edge = s.Pairs + 2*i + place - s.Works[i].At
			}
		}
		line = append(line, edge)
	}
	return line
}

// readyAfter returns the works that are not done, and before which there are only works that are.
func readyAfter(before [][]bool, done []int) []int {
	var ready []int
	for b := range before {
		if !slices.Contains(done, b) && isClosed(before, append(slices.Clone(done), b)) {
			ready = append(ready, b)
		}
	}
	return ready
}

// P4.3: Line and Ready after all sets of works of many sheets, against the definitions.
func TestEverySet(t *testing.T) {
	manySheets(7, func(s api.Sheet) {
		before := beforeTable(s)
		sets(len(s.Works), func(done []int) {
			line, e := sheet.Line(s, done)
			ready, f := sheet.Ready(s, done)
			if !isClosed(before, done) {
				if e != api.ErrNone || f != api.ErrNone || len(line)+len(ready) > 0 {
					t.Fatalf("%v after %v: %v, %d and %v, %d", s, done, line, e, ready, f)
				}
				return
			}
			if e != api.OK || !slices.Equal(line, lineAfter(s, done)) {
				t.Fatalf("Line of %v after %v: %v, %d", s, done, line, e)
			}
			if f != api.OK || !slices.Equal(ready, readyAfter(before, done)) {
				t.Fatalf("Ready of %v after %v: %v, %d", s, done, ready, f)
			}
		})
	})
}

// A play does the works of a sheet one after the other, each time one that is ready; done is ascending.
type play struct {
	t     *testing.T
	s     api.Sheet
	order []int
	done  []int
}

func (p *play) line() []int {
	p.t.Helper()
	l, e := sheet.Line(p.s, p.done)
	if e != api.OK || len(l) != p.s.Pairs {
		p.t.Fatalf("Line of %v after %v: %v, %d", p.s, p.done, l, e)
	}
	return l
}

func (p *play) ready() []int {
	p.t.Helper()
	l, e := sheet.Ready(p.s, p.done)
	if e != api.OK || !slices.IsSorted(l) {
		p.t.Fatalf("Ready of %v after %v: %v, %d", p.s, p.done, l, e)
	}
	return l
}

func (p *play) do(work int) {
	p.order = append(p.order, work)
	p.done = append(p.done, work)
	slices.Sort(p.done)
}

// plays calls with each step of plays of many sheets: how it was before the step, which work is done, and how it is afterwards.
func plays(t *testing.T, call func(before play, work int, after play)) {
	r := rand.New(rand.NewSource(3))
	run := func(s api.Sheet) play {
		p := play{t: t, s: s}
		for range s.Works {
			ready := p.ready()
			if len(ready) == 0 {
				t.Fatalf("%v after %v: nothing is ready", s, p.done)
			}
			work := ready[r.Intn(len(ready))]
			before := play{t, s, slices.Clone(p.order), slices.Clone(p.done)}
			p.do(work)
			call(before, work, p)
		}
		return p
	}
	manySheets(20, func(s api.Sheet) { run(s) })
	run(someSheet(r, 24, 150))
	run(sheetOf(2, make([]int, 150)...))
}

// P4.6: in whatever order the works are done, each one finds the edges in its places that Edges says.
func TestWorksFindTheirEdges(t *testing.T) {
	plays(t, func(before play, work int, after play) {
		edges, _ := sheet.Edges(before.s)
		line, at := before.line(), before.s.Works[work].At
		for side := range 2 {
			if edge := edges[line[at+side]]; edge.To != work || edge.In != side {
				t.Fatalf("%v: the work %d finds %v after %v", before.s, work, edge, before.done)
			}
		}
		if len(after.done) < len(after.s.Works) {
			return
		}
		for place, edge := range after.line() {
			if edges[edge].To != -1 || edges[edge].In != place {
				t.Fatalf("%v: %v at the bottom %d", after.s, edges[edge], place)
			}
		}
	})
}

// P4.7: a closed set with a work that is ready is closed, so that all works are done at last, in an order.
func TestPlaysAreOrders(t *testing.T) {
	plays(t, func(before play, work int, after play) {
		if len(after.done) < len(after.s.Works) {
			after.line()
			return
		}
		if l := after.ready(); len(l) > 0 {
			t.Fatalf("%v: %v is ready at the end", after.s, l)
		}
		if x, e := sheet.Reorder(after.s, after.order); e != api.OK || len(x.Works) != len(after.order) {
			t.Fatalf("%v in the order %v: %d", after.s, after.order, e)
		}
	})
}

// P4.8: works that are ready at the same time do not touch; when one of them is done, the line changes in its places alone, to its edges, and the others are still ready.
func TestReadyWorks(t *testing.T) {
	plays(t, func(before play, work int, after play) {
		s, ready := before.s, before.ready()
		for k, a := range ready {
			for _, b := range ready[:k] {
				if touching(s.Works[a], s.Works[b]) {
					t.Fatalf("%v: %d and %d are ready after %v", s, a, b, before.done)
				}
			}
			if a != work && !slices.Contains(after.ready(), a) {
				t.Fatalf("%v: %d is ready after %v, but not after %d as well", s, a, before.done, work)
			}
		}
		want := before.line()
		for side := range 2 {
			want[s.Works[work].At+side] = s.Pairs + 2*work + side
		}
		if line := after.line(); !slices.Equal(line, want) {
			t.Fatalf("%v: the line after %v is %v, not %v", s, after.done, line, want)
		}
	})
}
