package corners_test

import (
	"slices"
	"testing"

	"torchon/api"
	"torchon/corners"
	"torchon/grids"
	"torchon/sheet"
	"torchon/traces"
)

// P11.5: the squared distance of any two images is that of the points.
func TestImagesKeepDistances(t *testing.T) {
	square := api.GrLattice{A: 1, C: 1}
	points := []api.GrPoint{pt(0, 0), pt(1, 0), pt(0, 1), pt(-3, 7), pt(12, 5), pt(10000, -10000), pt(-9999, 10000)}
	straight := 0
	manyCorners(t, 2, 100, func(c api.CnCorner, j judgement) {
		if j.check != api.OK {
			return
		}
		straight++
		var images []api.GrPoint
		for i, p := range points {
			image, e := corners.Image(c, p)
			images = append(images, image)
			for k, q := range points[:i] {
				want, _ := grids.Square(square, p, q)
				if got, _ := grids.Square(square, image, images[k]); got != want || e != api.OK {
					t.Fatalf("Image of %v: %v, %d of %v, and %v of %v", c, image, e, p, images[k], q)
				}
			}
		}
	})
	if straight < 100 {
		t.Errorf("only %d corners", straight)
	}
}

// P11.5: the points of the second line and their images on the first one coincide, with the same x. The images of the second leg lie behind the line.
func TestLinesCoincide(t *testing.T) {
	met := map[[2]bool]int{}
	manyCorners(t, 3, 60, func(c api.CnCorner, j judgement) {
		if j.check != api.OK {
			return
		}
		met[[2]bool{c.Left, c.Mirror}]++
		side := int64(1)
		if c.Left {
			side = -1
		}
		a, d := int64(c.A), int64(c.D)
		for x := int64(-50); x <= 50; x += 5 {
			onSecond := pt(x, side*x-a)
			if c.Mirror {
				onSecond = pt(x, d-side*x)
			}
			if q, e := corners.Image(c, onSecond); q != pt(x, d-side*x) || e != api.OK {
				t.Fatalf("Image of %v: %v, %d of %v on the line", c, q, e, onSecond)
			}
		}
		_, points, _ := corners.Turn(c)
		for i, q := range points {
			if before := side*q.X+q.Y < d; before != (i < j.first) {
				t.Fatalf("Turn of %v: the point %d, %v", c, i, q)
			}
		}
	})
	for kind, times := range met {
		if len(met) < 4 || times < 10 {
			t.Errorf("left, mirrored %v: only %d corners", kind, times)
		}
	}
}

// P11.6: layer 4 accepts the sheet; its pairs go from work to work along the edges, over the line, or leave and come back at the same side.
func TestPairsGoFromWorkToWork(t *testing.T) {
	went := map[string]int{}
	manyCorners(t, 4, 400, func(c api.CnCorner, j judgement) {
		s, _, e := corners.Turn(c)
		if c.Left || e != api.OK {
			return
		}
		edges, e := sheet.Edges(s)
		if e != api.OK {
			t.Fatalf("Turn of %v: %v, which is no sheet: %d", c, s, e)
		}
		p := pieceOf(c)
		work := func(leg int, q spot) int { return leg*len(p.legs[0]) + slices.Index(p.legs[leg], q) }
		for _, w := range j.ways {
			if w.enters {
				continue
			}
			from := work(w.leg, w.from)
			want := api.ShEdge{From: from, Out: w.out, To: -1}
			switch edge := edges[s.Pairs+2*from+w.out]; {
			case !w.leaves:
				want.To, want.In = work(w.leg, w.to), w.in
				went["along an edge"]++
			case w.next != nil && w.next.border == w.border:
				want.To, want.In = work(w.next.leg, w.next.to), w.next.in
				went[w.border]++
			default:
				want.In = edge.In // some place at the bottom
				went["down"]++
			}
			if edge := edges[s.Pairs+2*from+w.out]; edge != want {
				t.Fatalf("Turn of %v: a pair goes on by %v, want %v", c, edge, want)
			}
		}
	})
	for _, how := range []string{"along an edge", "line", "left", "right", "down"} {
		if went[how] < 500 {
			t.Errorf("%s: only %d pairs", how, went[how])
		}
	}
}

// backwards returns a sheet with its works in the opposite order.
func backwards(s api.Sheet) api.Sheet {
	s.Works = slices.Clone(s.Works)
	slices.Reverse(s.Works)
	return s
}

// P11.7 and P11.9: a mirrored second leg with Last equal to Y fits, and has as many nodes as the first one, at the points that lie behind the line. The sheet read backwards is the same lace.
func TestMirroredLegs(t *testing.T) {
	turned := 0
	manyCorners(t, 5, 400, func(c api.CnCorner, _ judgement) {
		c = mirrored(c)
		if corners.Check(c) != api.OK {
			return
		}
		if l, e := corners.Fits(c); len(l) > 0 || e != api.OK {
			t.Fatalf("Fits of %v: %v, %d", c, l, e)
		}
		s, points, e := corners.Turn(c)
		if e == api.ErrLong {
			return
		}
		half := len(points) / 2
		if e != api.OK || len(points) != 2*half {
			t.Fatalf("Turn of %v: %v, %v, %d", c, s, points, e)
		}
		for _, q := range points[:half] {
			if image, _ := corners.Image(c, q); !slices.Contains(points[half:], image) {
				t.Fatalf("Turn of %v: %v, without the image of %v", c, points, q)
			}
		}
		if same, e := traces.Same(s, backwards(s)); !same || e != api.OK {
			t.Fatalf("Turn of %v: %v, which is not the same lace backwards", c, s)
		}
		turned++
	})
	if turned < 500 {
		t.Errorf("only %d corners", turned)
	}
}

// P11.9 needs Last to be Y: the sheet of a turned corner is another lace backwards.
func TestTurnedLegsBackwards(t *testing.T) {
	s, _, _ := corners.Turn(example())
	if same, e := traces.Same(s, backwards(s)); same || e != api.OK {
		t.Errorf("%v is the same backwards: %v, %d", s, same, e)
	}
}

// P11.7: what becomes of a corner if left and right are exchanged: all points are exchanged likewise, and places are counted from the other end.
func TestExchanged(t *testing.T) {
	works := 0
	manyCorners(t, 6, 400, func(c api.CnCorner, j judgement) {
		d := exchanged(c)
		if e, f := corners.Check(c), corners.Check(d); e != f {
			t.Fatalf("Check of %v: %d, and exchanged %d", c, e, f)
		}
		l, e := corners.Fits(c)
		m, f := corners.Fits(d)
		slices.Reverse(m)
		for i := range m {
			m[i].Num = -m[i].Num
		}
		if e != f || !slices.Equal(l, m) {
			t.Fatalf("Fits of %v: %v, %d, and exchanged %v, %d", c, l, e, m, f)
		}
		s, points, e := corners.Turn(c)
		o, others, f := corners.Turn(d)
		if e != f || s.Pairs != o.Pairs || len(points) != len(others) {
			t.Fatalf("Turn of %v: %v, %d, and exchanged %v, %d", c, s, e, o, f)
		}
		for i, w := range s.Works {
			k := slices.Index(others, pt(-points[i].X, points[i].Y))
			if k < 0 || o.Works[k] != (api.Work{Kind: w.Kind, At: s.Pairs - 2 - w.At, Word: w.Word}) {
				t.Fatalf("Turn of %v: %v at %v, and exchanged %v at %v", c, s, points, o, others)
			}
			works++
		}
	})
	if works < 8000 {
		t.Errorf("only %d works", works)
	}
}

// P11.4: the points of the first leg are in the order of y, then of x, and so are those of a turned second leg in the ground; those of a mirrored one in the order of falling y, then of x, also to the left.
func TestOrderOfWorks(t *testing.T) {
	for _, c := range []struct {
		name   string
		c      api.CnCorner
		points []api.GrPoint
	}{
		{"turned", api.CnCorner{Ground: torchon(), W: 3, Y: 1, Last: 2, D: 5, A: 1}, []api.GrPoint{pt(1, 1), pt(0, 2), pt(2, 2), pt(1, 3), pt(0, 4), pt(1, 5), pt(2, 4), pt(3, 5), pt(3, 3)}},
		{"turned, to the left", api.CnCorner{Ground: torchon(), X: -2, W: 3, Y: 1, Last: 2, D: 5, A: 1, Left: true}, []api.GrPoint{pt(-1, 1), pt(-2, 2), pt(0, 2), pt(-1, 3), pt(0, 4), pt(-1, 5), pt(-2, 4), pt(-3, 3), pt(-3, 5)}},
		{"mirrored", api.CnCorner{Ground: torchon(), W: 3, Y: 1, Last: 1, D: 5, Mirror: true}, []api.GrPoint{pt(1, 1), pt(0, 2), pt(2, 2), pt(1, 3), pt(0, 4), pt(1, 5), pt(2, 4), pt(3, 5), pt(3, 3), pt(4, 4)}},
		{"mirrored, to the left", api.CnCorner{Ground: torchon(), X: -2, W: 3, Y: 1, Last: 1, D: 5, Mirror: true, Left: true}, []api.GrPoint{pt(-1, 1), pt(-2, 2), pt(0, 2), pt(-1, 3), pt(0, 4), pt(-1, 5), pt(-2, 4), pt(-3, 3), pt(-3, 5), pt(-4, 4)}},
	} {
		if s, points, e := corners.Turn(c.c); e != api.OK || !slices.Equal(points, c.points) {
			t.Errorf("%s: %v, %v, %d, want the points %v", c.name, s, points, e, c.points)
		}
	}
}
