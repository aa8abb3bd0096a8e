package grounds_test

import (
	"math/rand"
	"slices"
	"testing"

	"torchon/api"
	"torchon/grounds"
	"torchon/sheet"
)

// A trial is a ground, a window of it, and skipped nodes.
type trial struct {
	g    api.GdGround
	w    api.GdWindow
	skip []api.GrPoint
}

// manyTrials calls with windows of many grounds, many of them with skipped nodes.
func manyTrials(seed int64, times int, call func(c trial)) {
	manyGrounds(seed, times, func(r *rand.Rand, g api.GdGround) {
		for range 6 {
			c := trial{g: g, w: window(r.Intn(60)-30, r.Intn(60)-30, 1+r.Intn(14), 1+r.Intn(20))}
			many := r.Intn(4)
			for q := range placed(g, c.w.X, c.w.Y, c.w.X+c.w.W-1, c.w.Y+c.w.H-1) {
				if r.Intn(5) < many {
					c.skip = append(c.skip, pt(int64(q[0]), int64(q[1])))
				}
			}
			r.Shuffle(len(c.skip), func(i, k int) { c.skip[i], c.skip[k] = c.skip[k], c.skip[i] })
			call(c)
		}
	})
}

// P7.3 and P7.4: what a window cuts out of many grounds, against pairs that are followed from the top on. The pairs that come to a node are neighbours, so that layer 4 accepts the sheet.
func TestManyCuts(t *testing.T) {
	met := map[api.Errno]int{}
	waited, passed := 0, 0
	manyTrials(3, 1500, func(c trial) {
		p := pieceOf(c.g, c.w, c.skip)
		want, wanted := api.Sheet{}, api.OK
		if len(p.points) > 0 {
			want = p.sheet(t)
		}
		switch {
		case len(p.points) == 0:
			wanted = api.ErrNone
		case want.Pairs > api.MaxPairs:
			wanted = api.ErrLong
		}
		met[wanted]++
		for _, w := range p.ways {
			if w.next != nil {
				waited++
			}
			if len(w.segs) > 1 {
				passed++
			}
		}
		s, points, e := grounds.Cut(c.g, c.w, c.skip)
		if wanted != api.OK {
			if e != wanted || s.Pairs != 0 || len(s.Works)+len(points) > 0 {
				t.Fatalf("Cut of %v: %v, %v, %d, want the error %d", c, s, points, e, wanted)
			}
			return
		}
		if e != api.OK || s.Pairs != want.Pairs || !slices.Equal(s.Works, want.Works) || sheet.Check(s) != api.OK {
			t.Fatalf("Cut of %v: %v, %d, want %v", c, s, e, want)
		}
		for i, q := range p.points {
			if points[i] != pt(int64(q[0]), int64(q[1])) || len(points) != len(p.points) {
				t.Fatalf("Cut of %v: the points %v, want %v", c, points, p.points)
			}
		}
	})
	if met[api.OK] < 5000 || met[api.ErrLong] < 100 || met[api.ErrNone] < 100 || waited < 5000 || passed < 5000 {
		t.Errorf("errors %v, pairs that waited %d, and that passed by skipped nodes %d", met, waited, passed)
	}
}

// P7.5: if a pair goes on from a node of the cut to another one, the work of the latter is the next one of this pair.
func TestPairsGoFromWorkToWork(t *testing.T) {
	went := 0
	manyTrials(4, 600, func(c trial) {
		s, _, e := grounds.Cut(c.g, c.w, c.skip)
		if e != api.OK {
			return
		}
		edges, _ := sheet.Edges(s)
		for _, w := range pieceOf(c.g, c.w, c.skip).ways {
			if w.enters || w.leaves {
				continue
			}
			went++
			if edge := edges[s.Pairs+2*w.from+w.out]; edge != (api.ShEdge{From: w.from, Out: w.out, To: w.to, In: w.in}) {
				t.Fatalf("Cut of %v: a pair goes on from %v, but not by %v", c, edge, w)
			}
		}
	})
	if went < 10000 {
		t.Errorf("only %d pairs went on", went)
	}
}

// P7.5: the cut by a window that is moved by a sum of multiples of (W, 0) and (Shift, H) is the same sheet.
func TestMovedWindows(t *testing.T) {
	r := rand.New(rand.NewSource(5))
	manyTrials(6, 600, func(c trial) {
		units := r.Intn(21) - 10
		x, y := units*c.g.Shift+(r.Intn(21)-10)*c.g.W, units*c.g.H
		d := c
		d.w.X, d.w.Y = c.w.X+x, c.w.Y+y
		d.skip = movedPoints(c.skip, x, y)
		s, points, e := grounds.Cut(c.g, c.w, c.skip)
		m, others, f := grounds.Cut(d.g, d.w, d.skip)
		if e != f || s.Pairs != m.Pairs || !slices.Equal(s.Works, m.Works) || !slices.Equal(movedPoints(points, x, y), others) {
			t.Fatalf("Cut of %v, %v, %v, %d, and moved by %d, %d: %v, %v, %d", c, s, points, e, x, y, m, others, f)
		}
	})
}

func movedPoints(points []api.GrPoint, x, y int) []api.GrPoint {
	var l []api.GrPoint
	for _, q := range points {
		l = append(l, pt(q.X+int64(x), q.Y+int64(y)))
	}
	return l
}

// otherSide returns the ground that is seen from the other side.
func otherSide(g api.GdGround) api.GdGround {
	nodes := slices.Clone(g.Nodes)
	for i, n := range nodes {
		left, right := n.Out[1], n.Out[0]
		left.DX, right.DX = -left.DX, -right.DX
		nodes[i] = node(mod(-n.X, g.W), n.Y, n.Word, left, right)
	}
	return ground(g.W, g.H, mod(-g.Shift, g.W), nodes...)
}

// P7.8: the cut of the ground that is seen from the other side has for each node its work at the place that is counted from the other end.
func TestOtherSide(t *testing.T) {
	cuts := 0
	manyTrials(7, 600, func(c trial) {
		d := trial{g: otherSide(c.g), w: c.w}
		d.w.X = 1 - c.w.X - c.w.W
		for _, q := range c.skip {
			d.skip = append(d.skip, pt(-q.X, q.Y))
		}
		s, points, e := grounds.Cut(c.g, c.w, c.skip)
		o, others, f := grounds.Cut(d.g, d.w, d.skip)
		if e != f || s.Pairs != o.Pairs || len(points) != len(others) {
			t.Fatalf("Cut of %v: %v, %d, and from the other side %v, %d", c, s, e, o, f)
		}
		for i, w := range s.Works {
			k := slices.Index(others, pt(-points[i].X, points[i].Y))
			if k < 0 || o.Works[k] != (api.Work{Kind: w.Kind, At: s.Pairs - 2 - w.At, Word: w.Word}) {
				t.Fatalf("Cut of %v: %v at %v, and from the other side %v at %v", c, s, points, o, others)
			}
			cuts++
		}
	})
	if cuts < 20000 {
		t.Errorf("only %d works", cuts)
	}
}
