package grounds_test

import (
	"math"
	"slices"
	"testing"

	"torchon/api"
	"torchon/grounds"
	"torchon/sheet"
)

// swaying returns a ground of rows that lead far to the left, and far to the right, by turns. So both pairs of a node leave its column at one side, and both pairs of the next node of the column come from the other side; those that have left first come back last.
func swaying() api.GdGround {
	return ground(1, 2, 0, node(0, 0, "CT", step(-3, 1), step(-2, 1)), node(0, 1, "CT", step(2, 1), step(3, 1)))
}

// P7.3 and the chapter's examples: Cut.
func TestCut(t *testing.T) {
	three := []api.GrPoint{pt(0, 0), pt(2, 0), pt(1, 1), pt(0, 2), pt(2, 2)}
	for _, c := range []struct {
		name   string
		g      api.GdGround
		w      api.GdWindow
		skip   []api.GrPoint
		pairs  int
		at     []int
		points []api.GrPoint
	}{
		{"the example", torchon(), window(0, 0, 3, 3), nil, 4, []int{0, 2, 1, 0, 2}, three},
		{"skipping the middle", torchon(), window(0, 0, 3, 3), []api.GrPoint{pt(1, 1)}, 4, []int{0, 2, 0, 2}, slices.Delete(slices.Clone(three), 2, 3)},
		// The left pair of the skipped node passes by, and does not count; so the pair that enters at the left lower down has to hang from the beginning.
		{"skipping the first one", torchon(), window(0, 0, 3, 3), []api.GrPoint{pt(0, 0)}, 4, []int{2, 1, 0, 2}, three[1:]},
		{"skipping all but the middle", torchon(), window(0, 0, 3, 3), []api.GrPoint{pt(0, 2), pt(2, 0), pt(0, 0), pt(2, 2)}, 2, []int{0}, three[2:3]},
		{"skipping all but the last one", torchon(), window(0, 0, 3, 3), three[:4], 2, []int{0}, three[4:]},
		{"one node", torchon(), window(4, 2, 1, 1), nil, 2, []int{0}, []api.GrPoint{pt(4, 2)}},
		{"one node in a large window", wide(), window(3, 3, 9, 9), nil, 2, []int{0}, []api.GrPoint{pt(7, 7)}},
		{"a row", torchon(), window(-4, 2, 5, 1), nil, 6, []int{0, 2, 4}, []api.GrPoint{pt(-4, 2), pt(-2, 2), pt(0, 2)}},
		{"a column", torchon(), window(0, 0, 1, 5), nil, 2, []int{0, 0, 0}, []api.GrPoint{pt(0, 0), pt(0, 2), pt(0, 4)}},
		// Pairs leave at the right, and do not come back; others enter at the left.
		{"a slanting column", full(1, 1), window(0, 0, 1, 3), nil, 4, []int{2, 1, 0}, []api.GrPoint{pt(0, 0), pt(0, 1), pt(0, 2)}},
		{"a slanting piece", full(1, 1), window(0, 0, 2, 2), nil, 5, []int{1, 3, 0, 2}, []api.GrPoint{pt(0, 0), pt(1, 0), pt(0, 1), pt(1, 1)}},
		{"a piece that slants to the left", ground(1, 1, 0, node(0, 0, "CT", step(-1, 1), step(0, 1))), window(0, 0, 2, 2), nil, 5, []int{0, 2, 1, 3}, []api.GrPoint{pt(0, 0), pt(1, 0), pt(0, 1), pt(1, 1)}},
		{"there and back", swaying(), window(0, 0, 1, 3), nil, 4, []int{0, 2, 0}, []api.GrPoint{pt(0, 0), pt(0, 1), pt(0, 2)}},
		{"there and back, and once more", swaying(), window(0, 0, 1, 5), nil, 4, []int{0, 2, 0, 2, 0}, []api.GrPoint{pt(0, 0), pt(0, 1), pt(0, 2), pt(0, 3), pt(0, 4)}},
		{"there, by a skipped node, and not back", swaying(), window(0, 0, 1, 3), []api.GrPoint{pt(0, 2)}, 4, []int{0, 2}, []api.GrPoint{pt(0, 0), pt(0, 1)}},
		{"far away", torchon(), window(-999, -1000, 2, 4), nil, 3, []int{1, 0, 1, 0}, []api.GrPoint{pt(-998, -1000), pt(-999, -999), pt(-998, -998), pt(-999, -997)}},
	} {
		s, points, e := grounds.Cut(c.g, c.w, c.skip)
		if e != api.OK || s.Pairs != c.pairs || len(s.Works) != len(c.at) || !slices.Equal(points, c.points) {
			t.Errorf("%s: %v, %v, %d, want %d pairs, and the points %v", c.name, s, points, e, c.pairs, c.points)
			continue
		}
		for i, at := range c.at {
			if s.Works[i] != (api.Work{Kind: api.WkStitch, At: at, Word: c.g.Nodes[0].Word}) {
				t.Errorf("%s: the work %d is %v, want it at %d", c.name, i, s.Works[i], at)
			}
		}
	}
}

// P7.3: the works have the words of their nodes.
func TestCutHasTheWords(t *testing.T) {
	s, points, e := grounds.Cut(irregular(), window(0, 0, 5, 4), nil)
	if e != api.OK || len(s.Works) != 5 {
		t.Fatalf("%v, %v, %d", s, points, e)
	}
	for i, c := range []struct {
		q    api.GrPoint
		word string
	}{{pt(0, 0), "CTPCT"}, {pt(0, 1), "T"}, {pt(3, 1), "CT"}, {pt(4, 2), "CTCT"}, {pt(1, 3), ""}} {
		if points[i] != c.q || s.Works[i].Word != c.word || s.Works[i].Kind != api.WkStitch {
			t.Errorf("the work %d is %v at %v, want %v", i, s.Works[i], points[i], c)
		}
	}
}

// nodesOf returns some of the nodes of T in a window, from the first one on.
func nodesOf(w api.GdWindow, many int) []api.GrPoint {
	var l []api.GrPoint
	for y := w.Y; y < w.Y+w.H; y++ {
		for x := w.X; x < w.X+w.W && len(l) < many; x++ {
			if mod(x+y, 2) == 0 {
				l = append(l, pt(int64(x), int64(y)))
			}
		}
	}
	return l
}

// P7.3: the errors of Cut, with limits just reached and just exceeded.
func TestErrorsOfCut(t *testing.T) {
	one := window(0, 0, 3, 3)
	for _, c := range []struct {
		name string
		g    api.GdGround
		w    api.GdWindow
		skip []api.GrPoint
		want api.Errno
	}{
		{"the least place", torchon(), window(-1000, -1000, 1, 1), nil, api.OK},
		{"the greatest place", torchon(), window(1000, 1000, 1, 1), nil, api.OK},
		{"X too great", torchon(), window(1001, 0, 2, 1), nil, api.ErrRange},
		{"X too small", torchon(), window(-1001, 0, 2, 1), nil, api.ErrRange},
		{"Y too great", torchon(), window(0, 1001, 2, 1), nil, api.ErrRange},
		{"Y too small", torchon(), window(0, -1001, 2, 1), nil, api.ErrRange},
		{"no columns", torchon(), window(0, 0, 0, 1), nil, api.ErrRange},
		{"no rows", torchon(), window(0, 0, 1, 0), nil, api.ErrRange},
		{"fewer than no columns", torchon(), window(0, 0, -1, 1), nil, api.ErrRange},
		{"fewer than no rows", torchon(), window(0, 0, 1, -1), nil, api.ErrRange},
		{"200 columns", wide(), window(0, 7, 200, 1), slices.Collect(func(yield func(api.GrPoint) bool) {
			for x := int64(7); x < 200 && yield(pt(x, 7)); x += 8 {
			}
		})[12:], api.OK},
		{"201 columns", wide(), window(0, 7, 201, 1), nil, api.ErrRange},
		{"200 rows", torchon(), window(0, 0, 4, 200), nil, api.OK},
		{"201 rows", torchon(), window(0, 0, 1, 201), nil, api.ErrRange},
		{"extreme numbers", torchon(), window(math.MaxInt, math.MinInt, math.MaxInt, math.MaxInt), nil, api.ErrRange},
		{"extreme sizes", torchon(), window(1, 1, math.MaxInt, math.MaxInt), nil, api.ErrRange},
		{"24 pairs", torchon(), window(0, 0, 24, 1), nil, api.OK},
		{"26 pairs", torchon(), window(0, 0, 25, 1), nil, api.ErrLong},
		{"24 pairs, two of them from the side", full(1, 1), window(0, 0, 11, 3), nil, api.OK},
		{"25 pairs, three of them from the side", full(1, 1), window(0, 0, 11, 4), nil, api.ErrLong},
		{"26 pairs but for a skipped node", torchon(), window(0, 0, 25, 1), []api.GrPoint{pt(12, 0)}, api.OK},
		{"400 works", torchon(), window(0, 1, 4, 200), nil, api.OK},
		{"402 works", torchon(), window(1, 0, 5, 161), nil, api.ErrLong},
		{"403 works but for three skipped nodes", torchon(), window(0, 0, 5, 161), nodesOf(window(0, 0, 5, 161), 3), api.OK},
		{"403 works but for two skipped nodes", torchon(), window(0, 0, 5, 161), nodesOf(window(0, 0, 5, 161), 2), api.ErrLong},
		{"400 skipped nodes of 800", torchon(), window(0, 0, 8, 200), nodesOf(window(0, 0, 8, 200), 400), api.OK},
		{"401 skipped nodes", torchon(), window(0, 0, 8, 200), nodesOf(window(0, 0, 8, 200), 401), api.ErrLong},
		{"all of 400 nodes skipped", torchon(), window(0, 0, 4, 200), nodesOf(window(0, 0, 4, 200), 400), api.ErrNone},
		{"a window full of nodes", full(1, 1), window(-100, -100, 200, 200), nil, api.ErrLong},
		{"no node in the window", torchon(), window(1, 0, 1, 1), nil, api.ErrNone},
		{"no node in a large window", wide(), window(0, 8, 200, 7), nil, api.ErrNone},
		{"no node is left", torchon(), window(0, 0, 3, 1), []api.GrPoint{pt(0, 0), pt(2, 0)}, api.ErrNone},
		{"a skipped point that is no node", torchon(), one, []api.GrPoint{pt(1, 0)}, api.ErrNone},
		{"a skipped node to the left of the window", torchon(), one, []api.GrPoint{pt(-1, 1)}, api.ErrNone},
		{"a skipped node to the right of the window", torchon(), one, []api.GrPoint{pt(3, 1)}, api.ErrNone},
		{"a skipped node above the window", torchon(), one, []api.GrPoint{pt(1, -1)}, api.ErrNone},
		{"a skipped node below the window", torchon(), one, []api.GrPoint{pt(1, 3)}, api.ErrNone},
		{"a skipped point far away", torchon(), one, []api.GrPoint{pt(1, 1), pt(math.MaxInt64, math.MinInt64)}, api.ErrNone},
		{"a skipped point that is in the window but for its high bits", torchon(), one, []api.GrPoint{pt(1<<32, 1<<32)}, api.ErrNone},
		{"two skipped points are the same", torchon(), one, []api.GrPoint{pt(1, 1), pt(0, 0), pt(1, 1)}, api.ErrTwice},
		// Of several errors, the first one.
		{"no ground, and no window", example(step(1, 1), step(-1, 1)), window(0, 0, 0, 0), make([]api.GrPoint, 401), api.ErrForm},
		{"no window, and 401 points", torchon(), window(0, 0, 0, 0), make([]api.GrPoint, 401), api.ErrRange},
		{"401 points, and none of them is a node", torchon(), one, slices.Repeat([]api.GrPoint{pt(1, 0)}, 401), api.ErrLong},
		{"401 points are the same", torchon(), one, make([]api.GrPoint, 401), api.ErrLong},
		{"400 points are the same", torchon(), one, make([]api.GrPoint, 400), api.ErrTwice},
		{"twice no node", torchon(), one, []api.GrPoint{pt(1, 1), pt(1, 1), pt(1, 0), pt(1, 0)}, api.ErrNone},
		{"no node is left, and one is skipped twice", torchon(), window(0, 0, 1, 1), []api.GrPoint{pt(0, 0), pt(0, 0)}, api.ErrTwice},
		{"too many nodes, and one is skipped twice", full(1, 1), window(0, 0, 200, 200), []api.GrPoint{pt(0, 0), pt(0, 0)}, api.ErrTwice},
	} {
		s, points, e := grounds.Cut(c.g, c.w, c.skip)
		if e != c.want || e != api.OK && (s.Pairs != 0 || len(s.Works)+len(points) > 0) {
			t.Errorf("%s: %v, %v, %d, want %d", c.name, s, points, e, c.want)
		}
		if e == api.OK && (sheet.Check(s) != api.OK || len(points) != len(s.Works)) {
			t.Errorf("%s: %v, %v", c.name, s, points)
		}
	}
}
