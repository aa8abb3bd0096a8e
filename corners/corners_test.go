package corners_test

import (
	"math"
	"slices"
	"strings"
	"testing"

	"torchon/api"
	"torchon/corners"
	"torchon/sheet"
)

func pt(x, y int64) api.GrPoint { return api.GrPoint{X: x, Y: y} }

func step(x, y int) api.GdStep { return api.GdStep{DX: x, DY: y} }

func node(x, y int, word string, left, right api.GdStep) api.GdNode {
	return api.GdNode{X: x, Y: y, Word: word, Out: [2]api.GdStep{left, right}}
}

func ground(w, h, shift int, nodes ...api.GdNode) api.GdGround {
	return api.GdGround{W: w, H: h, Shift: shift, Nodes: nodes}
}

// torchon is the ground T of the chapter.
func torchon() api.GdGround { return ground(2, 1, 1, node(0, 0, "CTC", step(-1, 1), step(1, 1))) }

// slanting returns a ground with a node at each multiple of x, y, whose pairs go straight on, and to the right.
func slanting(x, y int) api.GdGround {
	return ground(x, y, 0, node(0, 0, "CT", step(0, y), step(x, y)))
}

// full returns a ground with a node at each point.
func full() api.GdGround { return slanting(1, 1) }

// example is the corner C of the chapter.
func example() api.CnCorner { return api.CnCorner{Ground: torchon(), W: 2, Last: 3, D: 3, A: 1} }

// with returns a corner with a change.
func with(c api.CnCorner, change func(c *api.CnCorner)) api.CnCorner {
	c.Ground.Nodes = slices.Clone(c.Ground.Nodes)
	change(&c)
	return c
}

// mirrored returns a corner with a mirrored second leg that is as long as the first one.
func mirrored(c api.CnCorner) api.CnCorner {
	c.Mirror, c.A, c.Last = true, 0, c.Y
	return c
}

// slant is a corner of a slanting ground, four columns of which have two columns of nodes.
func slant() api.CnCorner { return api.CnCorner{Ground: slanting(3, 4), W: 4, Last: 8, D: 9, A: 1} }

// P11.1 and the chapter's examples: Check.
func TestCheck(t *testing.T) {
	for _, c := range []struct {
		name string
		c    api.CnCorner
		want api.Errno
	}{
		{"C", example(), api.OK},
		{"C with D 2", with(example(), func(c *api.CnCorner) { c.D = 2 }), api.ErrForm},
		{"C with Last 1000", with(example(), func(c *api.CnCorner) { c.Last = 1000 }), api.ErrLong},
		{"C with A 0", with(example(), func(c *api.CnCorner) { c.A = 0 }), api.ErrForm},
		{"C, mirrored", mirrored(example()), api.OK},
		{"C, mirrored, with A 1", with(mirrored(example()), func(c *api.CnCorner) { c.A = 1 }), api.ErrRange},
		{"C, mirrored, with A -1", with(mirrored(example()), func(c *api.CnCorner) { c.A = -1 }), api.ErrRange},
		{"C, mirrored, with D 2", with(mirrored(example()), func(c *api.CnCorner) { c.D = 2 }), api.ErrForm},
		{"C to the left", exchanged(example()), api.OK},
		{"C to the left with D 2", with(exchanged(example()), func(c *api.CnCorner) { c.D = 2 }), api.ErrForm},
		{"C to the left with A 0", with(exchanged(example()), func(c *api.CnCorner) { c.A = 0 }), api.ErrForm},
		{"slanting", slant(), api.OK},
		{"a node at each point", with(example(), func(c *api.CnCorner) { c.Ground = full() }), api.ErrForm},
		// Legs without nodes, and with one.
		{"a first leg with one node", with(example(), func(c *api.CnCorner) { c.Y = 2 }), api.OK},
		{"no first leg", with(example(), func(c *api.CnCorner) { c.Y = 3 }), api.ErrNone},
		{"a second leg with one node", with(example(), func(c *api.CnCorner) { c.Last = 0 }), api.OK},
		{"no second leg", with(example(), func(c *api.CnCorner) { c.Last = -1 }), api.ErrNone},
		{"a mirrored second leg with one node", with(mirrored(example()), func(c *api.CnCorner) { c.Last = 2 }), api.OK},
		{"no mirrored second leg", with(mirrored(example()), func(c *api.CnCorner) { c.Last = 3 }), api.ErrNone},
		{"no first leg before a mirrored one", with(mirrored(example()), func(c *api.CnCorner) { c.Y = 3 }), api.ErrNone},
		{"no node in the strip", with(slant(), func(c *api.CnCorner) { c.X, c.W = 1, 2 }), api.ErrNone},
		{"no ground", api.CnCorner{W: 1}, api.ErrArg},
	} {
		if e := corners.Check(c.c); e != c.want {
			t.Errorf("%s: %d, want %d", c.name, e, c.want)
		}
	}
}

// P11.1: numbers at their limits and beyond.
func TestCheckOfNumbers(t *testing.T) {
	for _, c := range []struct {
		name   string
		change func(c *api.CnCorner)
		want   api.Errno
	}{
		{"the greatest X and Last, and the least Y", func(c *api.CnCorner) { c.X, c.Y, c.Last = 1000, -1000, 1000 }, api.OK},
		{"X 1001", func(c *api.CnCorner) { c.X, c.Y, c.Last = 1001, -1000, 1000 }, api.ErrRange},
		{"the least X and Last, and the greatest Y", func(c *api.CnCorner) { c.X, c.Y, c.Last, c.D, c.A = -1000, 1000, -1000, 1, 1 }, api.OK},
		{"X -1001", func(c *api.CnCorner) { c.X = -1001 }, api.ErrRange},
		{"X great", func(c *api.CnCorner) { c.X = math.MaxInt }, api.ErrRange},
		{"X small", func(c *api.CnCorner) { c.X = math.MinInt }, api.ErrRange},
		{"Y -1000", func(c *api.CnCorner) { c.Y, c.D = -1000, -995 }, api.OK},
		{"Y -1001", func(c *api.CnCorner) { c.Y, c.D = -1001, -995 }, api.ErrRange},
		{"Y 1001", func(c *api.CnCorner) { c.X, c.Y, c.D = -999, 1001, 5 }, api.ErrRange},
		{"Y great", func(c *api.CnCorner) { c.Y = math.MaxInt }, api.ErrRange},
		{"Last 1000", func(c *api.CnCorner) { c.Last, c.A = 1000, -995 }, api.OK},
		{"Last 1001", func(c *api.CnCorner) { c.Last, c.A = 1001, -995 }, api.ErrRange},
		{"Last -1001", func(c *api.CnCorner) { c.X, c.Y, c.Last = -1000, 1000, -1001 }, api.ErrRange},
		{"Last small", func(c *api.CnCorner) { c.Last = math.MinInt }, api.ErrRange},
		{"D 999", func(c *api.CnCorner) { c.X, c.Y, c.D, c.A = 3, 995, 999, 5 }, api.OK},
		{"D 1000", func(c *api.CnCorner) { c.X, c.Y, c.D, c.A = 3, 995, 1000, 5 }, api.ErrForm},
		{"D 1001", func(c *api.CnCorner) { c.X, c.Y, c.D, c.A = 3, 995, 1001, 5 }, api.ErrRange},
		{"D -999", func(c *api.CnCorner) { c.X, c.Y, c.D = -2, -1000, -999 }, api.OK},
		{"D -1000", func(c *api.CnCorner) { c.X, c.Y, c.D = -2, -1000, -1000 }, api.ErrForm},
		{"D -1001", func(c *api.CnCorner) { c.X, c.Y, c.D = -2, -1000, -1001 }, api.ErrRange},
		{"D great", func(c *api.CnCorner) { c.D = math.MaxInt }, api.ErrRange},
		{"A 999", func(c *api.CnCorner) { c.X, c.Y, c.A = 999, -1000, 999 }, api.OK},
		{"A 1000", func(c *api.CnCorner) { c.X, c.Y, c.A = 999, -1000, 1000 }, api.ErrForm},
		{"A 1001", func(c *api.CnCorner) { c.X, c.Y, c.A = 999, -1000, 1001 }, api.ErrRange},
		{"A -999", func(c *api.CnCorner) { c.X, c.Y, c.Last, c.A = -999, 1000, 5, -999 }, api.OK},
		{"A -1000", func(c *api.CnCorner) { c.X, c.Y, c.Last, c.A = -999, 1000, 5, -1000 }, api.ErrForm},
		{"A -1001", func(c *api.CnCorner) { c.X, c.Y, c.Last, c.A = -999, 1000, 5, -1001 }, api.ErrRange},
		{"A small", func(c *api.CnCorner) { c.A = math.MinInt }, api.ErrRange},
		{"W 1", func(c *api.CnCorner) { c.W = 1 }, api.OK},
		{"W 0", func(c *api.CnCorner) { c.W = 0 }, api.ErrRange},
		{"W -1", func(c *api.CnCorner) { c.W = -1 }, api.ErrRange},
		{"W 200", func(c *api.CnCorner) { c.W, c.D, c.Y, c.Last = 200, 201, 198, 1 }, api.OK},
		{"W 201", func(c *api.CnCorner) { c.W, c.D, c.Y, c.Last = 201, 201, 198, 1 }, api.ErrRange},
		{"W great", func(c *api.CnCorner) { c.W = math.MaxInt }, api.ErrRange},
		{"W small", func(c *api.CnCorner) { c.W = math.MinInt }, api.ErrRange},
	} {
		right := with(example(), c.change)
		left := right
		left.Left = true
		if c.want != api.ErrRange {
			left.X = max(1-right.X-right.W, -1000)
		}
		for _, x := range []api.CnCorner{right, left} {
			if e := corners.Check(x); e != c.want {
				t.Errorf("%s, left %v: %d, want %d", c.name, x.Left, e, c.want)
			}
		}
	}
}

// P11.1: legs with just as many nodes as they may have, and with one more.
func TestCheckOfLongLegs(t *testing.T) {
	for _, c := range []struct {
		name   string
		change func(c *api.CnCorner)
		want   api.Errno
	}{
		{"a first leg with 400 nodes", func(c *api.CnCorner) { c.Y = -397 }, api.OK},
		{"a first leg with 401 nodes", func(c *api.CnCorner) { c.Y = -398 }, api.ErrLong},
		{"a second leg with 400 nodes", func(c *api.CnCorner) { c.Last = 399 }, api.OK},
		{"a second leg with 401 nodes", func(c *api.CnCorner) { c.Last = 400 }, api.ErrLong},
		{"both legs with 400 nodes", func(c *api.CnCorner) { c.Y, c.Last = -397, 399 }, api.OK},
		{"both mirrored legs with 400 nodes", func(c *api.CnCorner) { c.Y = -397; *c = mirrored(*c) }, api.OK},
		{"a first leg with 401 nodes, the second one mirrored", func(c *api.CnCorner) { *c = mirrored(*c); c.Y = -398 }, api.ErrLong},
		{"a mirrored second leg with 401 nodes", func(c *api.CnCorner) { *c = mirrored(*c); c.Last = -398 }, api.ErrLong},
		{"a great second leg", func(c *api.CnCorner) { c.X, c.W, c.Last, c.A = -1000, 200, 1000, 999 }, api.ErrLong},
		{"a great first leg", func(c *api.CnCorner) { c.X, c.W, c.Y, c.D, c.A = -1000, 200, -1000, 999, -999 }, api.ErrLong},
		{"a great first leg of nodes that are far apart", func(c *api.CnCorner) {
			c.Ground = ground(16, 8, 8, node(7, 7, "CT", step(-8, 8), step(8, 8)))
			c.X, c.W, c.Y, c.D, c.A, c.Last = -1000, 200, -1000, 999, -999, 999
		}, api.ErrLong},
	} {
		x := with(example(), c.change)
		if e := corners.Check(x); e != c.want {
			t.Errorf("%s: %d, want %d", c.name, e, c.want)
		}
		if e := corners.Check(exchanged(x)); e != c.want && exchanged(x).X <= 1000 {
			t.Errorf("%s, to the left: %d, want %d", c.name, e, c.want)
		}
	}
}

// P11.1: of several errors, the one that is named first, by all functions. Each change makes an error that comes before those of the changes before it.
func TestSeveralErrors(t *testing.T) {
	c := example()
	for i, x := range []struct {
		change func()
		want   api.Errno
	}{
		{func() {}, api.OK},
		{func() { c.D = 2 }, api.ErrForm},
		{func() { c.Y = 2 }, api.ErrNone},
		{func() { c.Last = 400 }, api.ErrLong},
		{func() { c.Mirror = true }, api.ErrRange},
		{func() { c.Ground.Nodes[0].Out[0].DX = 1 }, api.ErrForm},
		{func() { c.Ground.Nodes[0].Out[0].DX = 0 }, api.ErrNone},
		{func() { c.Ground.Nodes[0].Word = strings.Repeat("C", 17) }, api.ErrLong},
		{func() { c.Ground.Nodes = nil }, api.ErrArg},
	} {
		x.change()
		if e := corners.Check(c); e != x.want {
			t.Errorf("the change %d: %d, want %d", i, e, x.want)
		}
		if x.want == api.OK {
			continue
		}
		p, e := corners.Image(c, pt(10001, 0))
		l, f := corners.Fits(c)
		s, points, g := corners.Turn(c)
		if p != pt(0, 0) || e != x.want || len(l) > 0 || f != x.want || s.Pairs != 0 || len(s.Works)+len(points) > 0 || g != x.want {
			t.Errorf("the change %d: %v, %d; %v, %d; %v, %v, %d, want %d", i, p, e, l, f, s, points, g, x.want)
		}
	}
	for _, x := range []struct {
		name   string
		change func(c *api.CnCorner)
		want   api.Errno
	}{
		{"a long second leg, and no first one", func(c *api.CnCorner) { c.Y, c.Last = 3, 400 }, api.ErrLong},
		{"a long first leg, and no second one", func(c *api.CnCorner) { c.Y, c.Last = -398, -1 }, api.ErrLong},
		{"no second leg, and nodes on its line", func(c *api.CnCorner) { c.Last, c.A = -1, 0 }, api.ErrNone},
		{"a long leg, and nodes on a line", func(c *api.CnCorner) { c.Last, c.A = 450, 0 }, api.ErrLong},
		{"a wide strip, and no legs", func(c *api.CnCorner) { c.W, c.Y, c.Last = 201, 900, -900 }, api.ErrRange},
	} {
		if e := corners.Check(with(example(), x.change)); e != x.want {
			t.Errorf("%s: %d, want %d", x.name, e, x.want)
		}
	}
}

// P11.1: nodes on a line count in all rows of the strip, and not outside of it.
func TestNodesOnLines(t *testing.T) {
	first := api.CnCorner{Ground: slanting(3, 4), W: 7, Y: 5, Last: 5, D: 10, A: 1}     // the line meets 6, 4, which is above the first leg
	second := api.CnCorner{Ground: slanting(3, 4), W: 7, Y: 5, Last: 1, D: 9, A: 2}     // the line meets 6, 4, which is below the second leg
	before := api.CnCorner{Ground: slanting(3, 4), X: 6, W: 4, Y: 0, Last: 9, D: 7}     // the lines meet 3, 4 and 4, 4, which are not in the strip
	both := api.CnCorner{Ground: slanting(3, 4), X: 3, W: 1, Y: 0, Last: 9, D: 7, A: 2} // the line meets 3, 4
	for _, c := range []struct {
		name string
		c    api.CnCorner
		want api.Errno
	}{
		{"above the first leg", first, api.ErrForm},
		{"to the right of it", with(first, func(c *api.CnCorner) { c.W = 6 }), api.OK},
		{"above the first leg, mirrored", mirrored(first), api.ErrForm},
		{"to the right of it, mirrored", with(mirrored(first), func(c *api.CnCorner) { c.W = 6 }), api.OK},
		{"below the second leg", second, api.ErrForm},
		{"to the right of it", with(second, func(c *api.CnCorner) { c.W = 6 }), api.OK},
		{"a line that only a mirrored leg does not have", mirrored(second), api.OK},
		{"to the left of both", with(before, func(c *api.CnCorner) { c.A = 3 }), api.OK},
		{"in the only column", both, api.ErrForm},
		{"in no column", with(both, func(c *api.CnCorner) { c.D = 8 }), api.OK},
	} {
		if e := corners.Check(c.c); e != c.want {
			t.Errorf("%s: %d, want %d", c.name, e, c.want)
		}
		if e := corners.Check(exchanged(c.c)); e != c.want {
			t.Errorf("%s, to the left: %d, want %d", c.name, e, c.want)
		}
	}
}

// P11.1: steps that lead along the lines, and back over them.
func TestStepsBack(t *testing.T) {
	// Only a node that is not in the strip has a step that leads back.
	far := ground(5, 3, 0, node(0, 0, "", step(0, 3), step(1, 3)), node(1, 0, "", step(0, 3), step(4, 3)))
	for _, c := range []struct {
		name                                     string
		g                                        api.GdGround
		right, rightMirrored, left, leftMirrored api.Errno
	}{
		{"along a line to the right", slanting(4, 4), api.OK, api.OK, api.OK, api.OK},
		{"along a line to the left", otherSide(slanting(4, 4)), api.OK, api.OK, api.OK, api.OK},
		{"steep", slanting(3, 4), api.OK, api.OK, api.OK, api.OK},
		{"flat to the right", slanting(4, 3), api.ErrForm, api.OK, api.ErrForm, api.ErrForm},
		{"flat to the left", otherSide(slanting(4, 3)), api.ErrForm, api.ErrForm, api.ErrForm, api.OK},
		{"very flat to the right", slanting(8, 3), api.ErrForm, api.OK, api.ErrForm, api.ErrForm},
		{"flat elsewhere", far, api.ErrForm, api.OK, api.ErrForm, api.ErrForm},
	} {
		x := api.CnCorner{Ground: c.g, W: 1, Last: 6, D: 5, A: 1}
		if x.Ground.H == 4 {
			x.D = 7
		}
		y := x
		y.Left = true
		for i, r := range []struct {
			c    api.CnCorner
			want api.Errno
		}{{x, c.right}, {mirrored(x), c.rightMirrored}, {y, c.left}, {mirrored(y), c.leftMirrored}} {
			if e := corners.Check(r.c); e != r.want {
				t.Errorf("%s, %d: %d, want %d", c.name, i, e, r.want)
			}
		}
	}
}

// P11.2 and the chapter's example: Image.
func TestImage(t *testing.T) {
	left, leftMirrored := exchanged(example()), exchanged(mirrored(example()))
	far := with(example(), func(c *api.CnCorner) { c.X, c.Y, c.D, c.A = 3, 995, 999, 5 })
	for _, c := range []struct {
		name    string
		c       api.CnCorner
		p, want api.GrPoint
		e       api.Errno
	}{
		{"C", example(), pt(1, 3), pt(4, 2), api.OK},
		{"C", example(), pt(0, 0), pt(1, 3), api.OK},
		{"C", example(), pt(-7, 5), pt(6, 10), api.OK},
		{"C, mirrored", mirrored(example()), pt(1, 3), pt(0, 2), api.OK},
		{"C, mirrored", mirrored(example()), pt(0, 0), pt(3, 3), api.OK},
		{"C, mirrored", mirrored(example()), pt(5, -2), pt(5, -2), api.OK},
		{"C to the left", left, pt(-1, 3), pt(-4, 2), api.OK},
		{"C to the left", left, pt(7, 5), pt(-6, 10), api.OK},
		{"C to the left, mirrored", leftMirrored, pt(-1, 3), pt(0, 2), api.OK},
		{"C to the left, mirrored", leftMirrored, pt(2, 8), pt(5, 5), api.OK},
		{"far", far, pt(10000, 10000), pt(10005, -9001), api.OK},
		{"far", far, pt(-10000, -10000), pt(-9995, 10999), api.OK},
		{"far", far, pt(10001, 0), pt(0, 0), api.ErrRange},
		{"far", far, pt(-10001, 0), pt(0, 0), api.ErrRange},
		{"far", far, pt(0, 10001), pt(0, 0), api.ErrRange},
		{"far", far, pt(0, -10001), pt(0, 0), api.ErrRange},
		{"far", far, pt(math.MaxInt64, math.MinInt64), pt(0, 0), api.ErrRange},
		{"far", far, pt(1<<32, 1<<32), pt(0, 0), api.ErrRange},
		{"C, mirrored, far", mirrored(example()), pt(-10000, 10000), pt(-9997, 10003), api.OK},
		{"C with D 2", with(example(), func(c *api.CnCorner) { c.D = 2 }), pt(1, 3), pt(0, 0), api.ErrForm},
	} {
		if p, e := corners.Image(c.c, c.p); p != c.want || e != c.e {
			t.Errorf("%s, %v: %v, %d, want %v, %d", c.name, c.p, p, e, c.want, c.e)
		}
	}
}

// P11.3 and the chapter's examples: Fits.
func TestFits(t *testing.T) {
	first, second := false, true
	for _, c := range []struct {
		name string
		c    api.CnCorner
		want []api.CnMiss
		e    api.Errno
	}{
		{"C", example(), nil, api.OK},
		{"C with A 0", with(example(), func(c *api.CnCorner) { c.A = 0 }), nil, api.ErrForm},
		{"C with Y 2", with(example(), func(c *api.CnCorner) { c.Y = 2 }), []api.CnMiss{{Num: 3, Den: 2, Second: second}}, api.OK},
		{"C with Last 0", with(example(), func(c *api.CnCorner) { c.Last = 0 }), []api.CnMiss{{Num: 3, Den: 2, Second: first}}, api.OK},
		{"C, mirrored", mirrored(example()), nil, api.OK},
		{"C, mirrored, with Last 2", with(mirrored(example()), func(c *api.CnCorner) { c.Last = 2 }), []api.CnMiss{{Num: 3, Den: 2, Second: first}}, api.OK},
		{"C to the left with Y 2", with(exchanged(example()), func(c *api.CnCorner) { c.Y = 2 }), []api.CnMiss{{Num: -3, Den: 2, Second: second}}, api.OK},
		// Upright edges meet the line at whole numbers; the others at sevenths.
		{"slanting", slant(), []api.CnMiss{{Num: 3, Den: 7, Second: first}, {Num: 15, Den: 7, Second: first}}, api.OK},
		{"slanting to the left", exchanged(slant()), []api.CnMiss{{Num: -15, Den: 7, Second: first}, {Num: -3, Den: 7, Second: first}}, api.OK},
		{"slanting, with a short first leg", with(slant(), func(c *api.CnCorner) { c.Y = 5 }), []api.CnMiss{{Num: 3, Den: 7, Second: first}, {Num: 3, Den: 1, Second: second}}, api.OK},
		{"slanting, the other end of the strip", with(slant(), func(c *api.CnCorner) { c.Y, c.Last = 5, 3 }), []api.CnMiss{{Num: 3, Den: 7, Second: first}}, api.OK},
		{"slanting, mirrored", mirrored(slant()), nil, api.OK},
		{"slanting, mirrored, with a short first leg", with(mirrored(slant()), func(c *api.CnCorner) { c.Y = 5 }), []api.CnMiss{{Num: 15, Den: 7, Second: second}, {Num: 3, Den: 1, Second: second}}, api.OK},
		{"slanting, mirrored, with a short second leg", with(mirrored(slant()), func(c *api.CnCorner) { c.Last = 5 }), []api.CnMiss{{Num: 15, Den: 7, Second: first}, {Num: 3, Den: 1, Second: first}}, api.OK},
	} {
		l, e := corners.Fits(c.c)
		if !slices.Equal(l, c.want) || e != c.e {
			t.Errorf("%s: %v, %d, want %v, %d", c.name, l, e, c.want, c.e)
		}
		if _, _, f := corners.Turn(c.c); e == api.OK && (f == api.ErrForm) != (len(l) > 0) {
			t.Errorf("%s: Fits returns %v, Turn %d", c.name, l, f)
		}
	}
}

// P11.4 and the chapter's examples: Turn.
func TestTurn(t *testing.T) {
	for _, c := range []struct {
		name   string
		c      api.CnCorner
		pairs  int
		at     []int
		points []api.GrPoint
	}{
		{"C", example(), 3, []int{0, 1, 0, 0, 1, 0, 1}, []api.GrPoint{pt(0, 0), pt(1, 1), pt(0, 2), pt(1, 3), pt(2, 2), pt(3, 3), pt(4, 2)}},
		{"C, mirrored", mirrored(example()), 3, []int{0, 1, 0, 0, 1, 0}, []api.GrPoint{pt(0, 0), pt(1, 1), pt(0, 2), pt(1, 3), pt(2, 2), pt(3, 3)}},
		{"C to the left", exchanged(example()), 3, []int{1, 0, 1, 1, 0, 1, 0}, []api.GrPoint{pt(0, 0), pt(-1, 1), pt(0, 2), pt(-1, 3), pt(-2, 2), pt(-3, 3), pt(-4, 2)}},
		{"C to the left, mirrored", exchanged(mirrored(example())), 3, []int{1, 0, 1, 1, 0, 1}, []api.GrPoint{pt(0, 0), pt(-1, 1), pt(0, 2), pt(-1, 3), pt(-2, 2), pt(-3, 3)}},
		// The first pair leaves at the left, and comes back in the second leg; the one beside it does so at the right.
		{"one column", with(example(), func(c *api.CnCorner) { c.W, c.D, c.Y, c.Last = 1, 1, 0, 2 }), 2, []int{0, 0, 0}, []api.GrPoint{pt(0, 0), pt(1, 1), pt(3, 1)}},
		// Two pairs enter at the left and have to hang from the beginning; two leave at the right in the first leg, and come back in the second one, the last one first.
		{"slanting, mirrored", mirrored(slant()), 6, []int{2, 4, 1, 3, 0, 0, 1, 3, 2, 4}, []api.GrPoint{pt(0, 0), pt(3, 0), pt(0, 4), pt(3, 4), pt(0, 8), pt(1, 9), pt(5, 9), pt(5, 6), pt(9, 9), pt(9, 6)}},
		{"slanting to the left, mirrored", exchanged(mirrored(slant())), 6, []int{0, 2, 1, 3, 4, 4, 1, 3, 0, 2}, []api.GrPoint{pt(-3, 0), pt(0, 0), pt(-3, 4), pt(0, 4), pt(0, 8), pt(-1, 9), pt(-5, 6), pt(-5, 9), pt(-9, 6), pt(-9, 9)}},
	} {
		s, points, e := corners.Turn(c.c)
		if e != api.OK || s.Pairs != c.pairs || len(s.Works) != len(c.at) || !slices.Equal(points, c.points) || sheet.Check(s) != api.OK {
			t.Errorf("%s: %v, %v, %d, want %d pairs, and the points %v", c.name, s, points, e, c.pairs, c.points)
			continue
		}
		for i, at := range c.at {
			if s.Works[i] != (api.Work{Kind: api.WkStitch, At: at, Word: c.c.Ground.Nodes[0].Word}) {
				t.Errorf("%s: the work %d is %v, want it at %d", c.name, i, s.Works[i], at)
			}
		}
	}
}

// P11.4: the works have the words of their nodes, also in the second leg and to the left.
func TestTurnHasTheWords(t *testing.T) {
	g := ground(2, 2, 0, node(1, 1, "CTPCT", step(-1, 1), step(1, 1)), node(0, 0, "ClR", step(-1, 1), step(1, 1)))
	for _, c := range []struct {
		c    api.CnCorner
		want string
	}{
		{example(), "ClR CTPCT ClR ClR CTPCT ClR CTPCT"},
		{mirrored(example()), "ClR CTPCT ClR ClR CTPCT ClR"},
		{exchanged(example()), "ClR CTPCT ClR ClR CTPCT ClR CTPCT"},
		{with(example(), func(c *api.CnCorner) { c.Y, c.D, c.A = 1, 5, -1 }), "CTPCT ClR CTPCT ClR ClR CTPCT"},
	} {
		c.c.Ground = g
		s, _, e := corners.Turn(c.c)
		var have []string
		for _, w := range s.Works {
			have = append(have, w.Word)
		}
		if strings.Join(have, " ") != c.want || e != api.OK {
			t.Errorf("%v: %v, %d, want %s", c.c, have, e, c.want)
		}
	}
}

// P11.4: the errors of Turn, with limits just reached and just exceeded.
func TestErrorsOfTurn(t *testing.T) {
	for _, c := range []struct {
		name         string
		change       func(c *api.CnCorner)
		want         api.Errno
		works, pairs int
	}{
		{"400 works, 3 of them in the first leg", func(c *api.CnCorner) { c.Last = 396 }, api.OK, 400, 3},
		{"401 works, 3 of them in the first leg", func(c *api.CnCorner) { c.Last = 397 }, api.ErrLong, 0, 0},
		{"400 works, 4 of them in the second leg", func(c *api.CnCorner) { c.Y = -393 }, api.OK, 400, 3},
		{"401 works, 4 of them in the second leg", func(c *api.CnCorner) { c.Y = -394 }, api.ErrLong, 0, 0},
		{"400 works, mirrored", func(c *api.CnCorner) { c.Y = -197; *c = mirrored(*c) }, api.OK, 400, 3},
		{"402 works, mirrored", func(c *api.CnCorner) { c.Y = -198; *c = mirrored(*c) }, api.ErrLong, 0, 0},
		{"800 works", func(c *api.CnCorner) { c.Y, c.Last = -397, 399 }, api.ErrLong, 0, 0},
		{"24 pairs", func(c *api.CnCorner) { c.W, c.D, c.Last = 23, 25, 22 }, api.OK, 311, 24},
		{"25 pairs", func(c *api.CnCorner) { c.W, c.D, c.Last = 24, 25, 23 }, api.ErrLong, 0, 0},
		{"24 pairs, mirrored", func(c *api.CnCorner) { c.W, c.D = 23, 23; *c = mirrored(*c) }, api.OK, 288, 24},
		{"25 pairs, mirrored", func(c *api.CnCorner) { c.W, c.D = 24, 25; *c = mirrored(*c) }, api.ErrLong, 0, 0},
		{"24 pairs, most of them from the side", func(c *api.CnCorner) {
			c.Ground, c.W, c.Y, c.D = slanting(3, 4), 1, -88, 3
			*c = mirrored(*c)
		}, api.OK, 46, 24},
		{"25 pairs, most of them from the side", func(c *api.CnCorner) {
			c.Ground, c.W, c.Y, c.D = slanting(3, 4), 1, -92, 3
			*c = mirrored(*c)
		}, api.ErrLong, 0, 0},
		{"legs that do not fit", func(c *api.CnCorner) { c.Y = 2 }, api.ErrForm, 0, 0},
		{"legs that do not fit, and 401 works", func(c *api.CnCorner) { c.Y, c.Last = 2, 399 }, api.ErrForm, 0, 0},
		{"legs that do not fit, and many pairs", func(c *api.CnCorner) { c.W, c.D, c.Last, c.Y = 30, 31, 28, 10 }, api.ErrForm, 0, 0},
	} {
		x := with(example(), c.change)
		for _, x := range []api.CnCorner{x, exchanged(x)} {
			s, points, e := corners.Turn(x)
			if e != c.want || len(s.Works) != c.works || len(points) != c.works || s.Pairs != c.pairs {
				t.Errorf("%s, left %v: %d works on %d pairs, %d points, %d, want %d, %d, %d", c.name, x.Left, len(s.Works), s.Pairs, len(points), e, c.works, c.pairs, c.want)
			}
			if corners.Check(x) != api.OK || e == api.OK && sheet.Check(s) != api.OK {
				t.Errorf("%s, left %v: Check returns %d", c.name, x.Left, corners.Check(x))
			}
		}
	}
}
