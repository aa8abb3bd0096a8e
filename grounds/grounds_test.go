package grounds_test

import (
	"math"
	"slices"
	"testing"

	"torchon/api"
	"torchon/grounds"
)

func pt(x, y int64) api.GrPoint { return api.GrPoint{X: x, Y: y} }

func step(x, y int) api.GdStep { return api.GdStep{DX: x, DY: y} }

func node(x, y int, word string, left, right api.GdStep) api.GdNode {
	return api.GdNode{X: x, Y: y, Word: word, Out: [2]api.GdStep{left, right}}
}

func ground(w, h, shift int, nodes ...api.GdNode) api.GdGround {
	return api.GdGround{W: w, H: h, Shift: shift, Nodes: nodes}
}

func window(x, y, w, h int) api.GdWindow { return api.GdWindow{X: x, Y: y, W: w, H: h} }

// example is the ground T of the chapter, with other steps.
func example(left, right api.GdStep) api.GdGround {
	return ground(2, 1, 1, node(0, 0, "CTC", left, right))
}

func torchon() api.GdGround { return example(step(-1, 1), step(1, 1)) }

// full returns a ground with a node at each point; as many as a unit has.
func full(w, h int) api.GdGround {
	g := ground(w, h, 0)
	for i := range w * h {
		g.Nodes = append(g.Nodes, node(i%w, i/w, "CT", step(0, 1), step(1, 1)))
	}
	return g
}

// wide returns a ground with the greatest unit, whose steps are as long as they may be.
func wide() api.GdGround {
	g := ground(24, 24, 23)
	for i := range 9 {
		row, column := i/3, i%3
		g.Nodes = append(g.Nodes, node((8*column+5*row+7)%24, 8*row+7, "CTPCT", step(-3, 8), step(5, 8)))
	}
	return g
}

// irregular returns a ground with nodes in rows of different widths, and steps of different heights.
func irregular() api.GdGround {
	return ground(5, 4, 3,
		node(1, 3, "", step(-3, 2), step(0, 2)),
		node(0, 0, "CTPCT", step(-2, 1), step(0, 1)),
		node(4, 2, "CTCT", step(-3, 1), step(-1, 2)),
		node(0, 1, "T", step(-4, 2), step(-1, 1)),
		node(3, 1, "CT", step(-4, 1), step(-5, 3)))
}

// steep returns a ground whose left step has the greater DX.
func steep() api.GdGround { return ground(1, 1, 0, node(0, 0, "", step(2, 3), step(1, 1))) }

// P7.1 and the chapter's examples: Check.
func TestCheck(t *testing.T) {
	for _, c := range []struct {
		name string
		g    api.GdGround
		want api.Errno
	}{
		{"the example", torchon(), api.OK},
		{"left and right exchanged", example(step(1, 1), step(-1, 1)), api.ErrForm},
		{"to no node", example(step(-1, 1), step(2, 1)), api.ErrNone},
		{"the greatest unit", wide(), api.OK},
		{"the greatest steps", ground(16, 1, 8, node(0, 0, "", step(-8, 1), step(8, 1))), api.OK},
		{"the greatest steps in both directions", ground(16, 8, 8, node(0, 0, "", step(-8, 8), step(8, 8))), api.OK},
		{"a node at each point", full(1, 1), api.OK},
		{"64 nodes", full(8, 8), api.OK},
		{"all nodes of one row", full(24, 1), api.OK},
		{"all nodes of one column", full(1, 24), api.OK},
		{"both steps to the right", ground(1, 1, 0, node(0, 0, "", step(4, 1), step(5, 1))), api.OK},
		{"both steps to the left", ground(1, 1, 0, node(0, 0, "", step(-8, 1), step(-7, 1))), api.OK},
		{"steps of different heights", irregular(), api.OK},
		// Which step is the left one depends on the slopes, not on DX alone.
		{"the left step has the greater DX", steep(), api.OK},
		{"the left step has the greater DX, and leads to the left", ground(1, 1, 0, node(0, 0, "", step(-1, 1), step(-2, 3))), api.OK},
		{"the right step has the greater DX, but comes first", ground(1, 1, 0, node(0, 0, "", step(1, 1), step(2, 3))), api.ErrForm},
		{"both steps the same", example(step(1, 1), step(1, 1)), api.ErrForm},
		{"one step on the other one", ground(1, 1, 0, node(0, 0, "", step(0, 1), step(0, 2))), api.ErrForm},
		{"one step on the other one, the longer one first", ground(1, 1, 0, node(0, 0, "", step(1, 2), step(2, 4))), api.ErrForm},
		{"edges that cross", example(step(-3, 1), step(1, 1)), api.ErrForm},
		{"edges that cross halfway between rows", ground(2, 1, 0, node(0, 0, "", step(-1, 1), step(0, 1)), node(1, 0, "", step(0, 1), step(-1, 1))), api.ErrForm},
		{"an edge through a node", ground(1, 1, 0, node(0, 0, "", step(0, 2), step(1, 1))), api.ErrForm},
		{"an edge through a node, on its edge", ground(2, 1, 0, node(0, 0, "", step(0, 1), step(2, 1)), node(1, 0, "", step(0, 2), step(1, 1))), api.ErrForm},
		{"three edges come to a node, and one to another one", ground(2, 1, 0, node(0, 0, "", step(0, 1), step(1, 1)), node(1, 0, "", step(-1, 1), step(1, 1))), api.ErrForm},
		{"two nodes whose edges are apart", ground(2, 1, 0, node(0, 0, "CT", step(0, 1), step(1, 1)), node(1, 0, "CTC", step(0, 1), step(1, 1))), api.OK},
		{"nodes in any order", ground(2, 2, 0, node(1, 1, "", step(-1, 1), step(1, 1)), node(0, 0, "", step(-1, 1), step(1, 1))), api.OK},
		{"the shift matters", ground(2, 1, 0, node(0, 0, "", step(-1, 1), step(1, 1))), api.ErrNone},
	} {
		if e := grounds.Check(c.g); e != c.want {
			t.Errorf("%s: %d, want %d", c.name, e, c.want)
		}
		if e := judge(c.g); e != c.want {
			t.Errorf("%s: the judge says %d, not %d", c.name, e, c.want)
		}
	}
}

// P7.1: many of the numbers that a ground may have, just within their limits and just beyond, and words.
func TestCheckOfNumbersAndWords(t *testing.T) {
	for _, c := range []struct {
		name   string
		change func(g *api.GdGround)
		want   api.Errno
	}{
		{"nothing", func(g *api.GdGround) {}, api.OK},
		{"65 nodes", func(g *api.GdGround) { g.Nodes = make([]api.GdNode, 65) }, api.ErrLong},
		{"64 nodes, none of them right", func(g *api.GdGround) { g.Nodes = make([]api.GdNode, 64) }, api.ErrRange},
		{"no nodes", func(g *api.GdGround) { g.Nodes = nil }, api.ErrArg},
		{"an empty list of nodes", func(g *api.GdGround) { g.Nodes = []api.GdNode{} }, api.ErrArg},
		{"W 0", func(g *api.GdGround) { g.W, g.Shift = 0, 0 }, api.ErrRange},
		{"W -1", func(g *api.GdGround) { g.W = -1 }, api.ErrRange},
		{"W 25", func(g *api.GdGround) { g.W = 25 }, api.ErrRange},
		{"W great", func(g *api.GdGround) { g.W = math.MaxInt }, api.ErrRange},
		{"W small", func(g *api.GdGround) { g.W = math.MinInt }, api.ErrRange},
		{"H 0", func(g *api.GdGround) { g.H = 0 }, api.ErrRange},
		{"H -24", func(g *api.GdGround) { g.H = -24 }, api.ErrRange},
		{"H 25", func(g *api.GdGround) { g.H = 25 }, api.ErrRange},
		{"H small", func(g *api.GdGround) { g.H = math.MinInt }, api.ErrRange},
		{"Shift -1", func(g *api.GdGround) { g.Shift = -1 }, api.ErrRange},
		{"Shift W", func(g *api.GdGround) { g.Shift = 24 }, api.ErrRange},
		{"Shift great", func(g *api.GdGround) { g.Shift = math.MaxInt }, api.ErrRange},
		{"X -1", func(g *api.GdGround) { g.Nodes[8].X = -1 }, api.ErrRange},
		{"X W", func(g *api.GdGround) { g.Nodes[8].X = 24 }, api.ErrRange},
		{"X W in a small unit", func(g *api.GdGround) { *g = torchon(); g.Nodes[0].X = 2 }, api.ErrRange},
		{"Y -1", func(g *api.GdGround) { g.Nodes[0].Y = -1 }, api.ErrRange},
		{"Y H", func(g *api.GdGround) { g.Nodes[0].Y = 24 }, api.ErrRange},
		{"Y H in a small unit", func(g *api.GdGround) { *g = torchon(); g.Nodes[0].Y = 1 }, api.ErrRange},
		{"DX -9", func(g *api.GdGround) { g.Nodes[4].Out[0].DX = -9 }, api.ErrRange},
		{"DX 9", func(g *api.GdGround) { g.Nodes[4].Out[1].DX = 9 }, api.ErrRange},
		{"DX small", func(g *api.GdGround) { g.Nodes[4].Out[1].DX = math.MinInt }, api.ErrRange},
		{"DX -8, where no node is", func(g *api.GdGround) { g.Nodes[4].Out[0].DX = -8 }, api.ErrNone},
		{"DX 8, where no node is", func(g *api.GdGround) { g.Nodes[4].Out[1].DX = 8 }, api.ErrNone},
		{"DY 0", func(g *api.GdGround) { g.Nodes[4].Out[0].DY = 0 }, api.ErrRange},
		{"DY -1", func(g *api.GdGround) { g.Nodes[4].Out[1].DY = -1 }, api.ErrRange},
		{"DY 9", func(g *api.GdGround) { g.Nodes[8].Out[1].DY = 9 }, api.ErrRange},
		{"DY 9 of a left step", func(g *api.GdGround) { g.Nodes[0].Out[0].DY = 9 }, api.ErrRange},
		{"DY great", func(g *api.GdGround) { g.Nodes[0].Out[0].DY = math.MaxInt }, api.ErrRange},
		{"DY 1, where no node is", func(g *api.GdGround) { g.Nodes[4].Out[1].DY = 1 }, api.ErrNone},
		{"a word without letters", func(g *api.GdGround) { g.Nodes[3].Word = "" }, api.OK},
		{"a word with 16 letters", func(g *api.GdGround) { g.Nodes[3].Word = "CLRTPclrtCLRTPcl" }, api.OK},
		{"a word with 17 letters", func(g *api.GdGround) { g.Nodes[3].Word = "CLRTPclrtCLRTPclr" }, api.ErrLong},
		{"no word", func(g *api.GdGround) { g.Nodes[8].Word = "CTX" }, api.ErrForm},
		{"no word, and then one with 17 letters", func(g *api.GdGround) { g.Nodes[3].Word, g.Nodes[4].Word = "x", "CCCCCCCCCCCCCCCCC" }, api.ErrForm},
		{"a word with 17 letters, and then no word", func(g *api.GdGround) { g.Nodes[3].Word, g.Nodes[4].Word = "CCCCCCCCCCCCCCCCC", "x" }, api.ErrLong},
		{"two nodes at one point", func(g *api.GdGround) { g.Nodes[8] = g.Nodes[0] }, api.ErrTwice},
		{"two nodes at one point, with other words and steps", func(g *api.GdGround) { g.Nodes[1].X, g.Nodes[1].Word = g.Nodes[2].X, "T" }, api.ErrTwice},
	} {
		g := wide()
		c.change(&g)
		if e := grounds.Check(g); e != c.want {
			t.Errorf("%s: %d, want %d", c.name, e, c.want)
		}
	}
}

// P7.1: of several errors, the one that is named first. Each change makes an error that comes before those of the changes before it.
func TestSeveralErrors(t *testing.T) {
	g := wide()
	for i, c := range []struct {
		change func()
		want   api.Errno
	}{
		{func() {}, api.OK},
		{func() { g.Nodes[0].Out = [2]api.GdStep{step(5, 8), step(-3, 8)} }, api.ErrForm},
		{func() { g.Nodes[1].Out[0].DX = 1 }, api.ErrNone},
		{func() { g.Nodes[5].X, g.Nodes[5].Y = g.Nodes[6].X, g.Nodes[6].Y }, api.ErrTwice},
		{func() { g.Nodes[8].Word = "CTP." }, api.ErrForm},
		{func() { g.Nodes[7].Word = "CTCTCTCTCTCTCTCTC" }, api.ErrLong},
		{func() { g.Nodes[8].Out[1].DY, g.Shift = 0, 24 }, api.ErrRange},
		{func() { g.Nodes = nil }, api.ErrArg},
		{func() { g.Nodes = append(wide().Nodes, full(7, 8).Nodes...) }, api.ErrLong},
	} {
		c.change()
		if e := grounds.Check(g); e != c.want {
			t.Errorf("the change %d: %d, want %d", i, e, c.want)
		}
		calls(g, func(name string, r result) {
			if c.want != api.OK && (r.e != c.want || !r.empty()) {
				t.Errorf("the change %d: %s returns %v", i, name, r)
			}
		})
	}
}

// P7.2 and the chapter's examples: At.
func TestAt(t *testing.T) {
	for _, c := range []struct {
		name       string
		g          api.GdGround
		x, y, want int
		e          api.Errno
	}{
		{"T", torchon(), 5, 3, 0, api.OK},
		{"T", torchon(), 5, 4, 0, api.ErrNone},
		{"T", torchon(), 0, 0, 0, api.OK},
		{"T", torchon(), 1, 0, 0, api.ErrNone},
		{"T", torchon(), -1, -3, 0, api.OK},
		{"T", torchon(), -1, 0, 0, api.ErrNone},
		{"T", torchon(), 1000000, 1000000, 0, api.OK},
		{"T", torchon(), -1000000, 1000000, 0, api.OK},
		{"T", torchon(), 1000000, -999999, 0, api.ErrNone},
		{"T", torchon(), 1000001, 1, 0, api.ErrRange},
		{"T", torchon(), -1000001, 1, 0, api.ErrRange},
		{"T", torchon(), 1, 1000001, 0, api.ErrRange},
		{"T", torchon(), 1, -1000001, 0, api.ErrRange},
		{"T", torchon(), 1000001, 0, 0, api.ErrRange},
		{"T", torchon(), math.MaxInt, math.MinInt, 0, api.ErrRange},
		{"T", torchon(), math.MinInt, 0, 0, api.ErrRange},
		{"full", full(3, 2), 2, 1, 5, api.OK},
		{"full", full(3, 2), -1, -1, 5, api.OK},
		{"full", full(3, 2), 4, 2, 1, api.OK},
		{"full", full(3, 2), -1000000, 999999, 5, api.OK},
		// The next unit below is 3 columns further to the right.
		{"irregular", irregular(), 3, 4, 1, api.OK},
		{"irregular", irregular(), 3, 5, 3, api.OK},
		{"irregular", irregular(), 6, 5, 4, api.OK},
		{"irregular", irregular(), 5, 5, 0, api.ErrNone},
		{"irregular", irregular(), -3, -4, 1, api.OK},
		{"irregular", irregular(), -2, -1, 0, api.OK},
		{"irregular", irregular(), 2, -1, 0, api.ErrNone},
		{"irregular", irregular(), 9, 10, 0, api.ErrNone},
		{"irregular", irregular(), 10, 10, 2, api.OK},
	} {
		if i, e := grounds.At(c.g, c.x, c.y); i != c.want || e != c.e {
			t.Errorf("At of %s, %d, %d: %d, %d, want %d, %d", c.name, c.x, c.y, i, e, c.want, c.e)
		}
	}
}

// P7.2 and the chapter's examples: Into.
func TestInto(t *testing.T) {
	for _, c := range []struct {
		name        string
		g           api.GdGround
		i           int
		left, right api.GdStep
		e           api.Errno
	}{
		{"T", torchon(), 0, step(1, 1), step(-1, 1), api.OK},
		{"T", torchon(), 1, api.GdStep{}, api.GdStep{}, api.ErrArg},
		{"T", torchon(), -1, api.GdStep{}, api.GdStep{}, api.ErrArg},
		{"T", torchon(), math.MaxInt, api.GdStep{}, api.GdStep{}, api.ErrArg},
		{"T", torchon(), math.MinInt, api.GdStep{}, api.GdStep{}, api.ErrArg},
		{"wide", wide(), 8, step(5, 8), step(-3, 8), api.OK},
		{"wide", wide(), 9, api.GdStep{}, api.GdStep{}, api.ErrArg},
		{"full", full(1, 1), 0, step(1, 1), step(0, 1), api.OK},
		{"steep", steep(), 0, step(1, 1), step(2, 3), api.OK},
		{"irregular", irregular(), 0, step(-4, 2), step(-3, 1), api.OK},
		{"irregular", irregular(), 1, step(-1, 2), step(-5, 3), api.OK},
		{"irregular", irregular(), 2, step(-1, 1), step(-4, 1), api.OK},
		{"irregular", irregular(), 3, step(0, 1), step(-3, 2), api.OK},
		{"irregular", irregular(), 4, step(0, 2), step(-2, 1), api.OK},
		{"irregular", irregular(), 5, api.GdStep{}, api.GdStep{}, api.ErrArg},
	} {
		if into, e := grounds.Into(c.g, c.i); into != [2]api.GdStep{c.left, c.right} || e != c.e {
			t.Errorf("Into of %s, %d: %v, %d, want %v, %v, %d", c.name, c.i, into, e, c.left, c.right, c.e)
		}
	}
}

// P7.2 and the chapter's examples: Rows.
func TestRows(t *testing.T) {
	for _, c := range []struct {
		name string
		g    api.GdGround
		want []int
	}{
		{"T", torchon(), []int{2}},
		{"full", full(3, 2), []int{6, 6}},
		{"steep", steep(), []int{4}},
		{"wide", wide(), slices.Repeat([]int{6}, 24)},
		{"flat", ground(16, 1, 8, node(0, 0, "", step(-8, 1), step(8, 1))), []int{2}},
		{"irregular", irregular(), []int{4, 4, 4, 4}},
	} {
		if l, e := grounds.Rows(c.g); !slices.Equal(l, c.want) || e != api.OK {
			t.Errorf("Rows of %s: %v, %d, want %v", c.name, l, e, c.want)
		}
	}
}
