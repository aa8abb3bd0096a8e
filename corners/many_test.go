package corners_test

import (
	"fmt"
	"math/rand"
	"slices"
	"testing"

	"torchon/api"
	"torchon/corners"
	"torchon/grounds"
)

// mod returns the remainder of a division that rounds down.
func mod(a, b int) int { return (a%b + b) % b }

var words = []string{"CTC", "CT", "CTCT", "CTPCT", "", "T", "ClR"}

// A web is a ground that is being made: its nodes row by row, each row with as many nodes from left to right, and in which rows they are.
type web struct {
	ground  api.GdGround
	columns [][]int
	ys      []int
}

// join returns, for each node of a row, the steps to two neighbours in the next one, which is moved by some columns. The steps are as steep as the rows allow, or a little flatter.
func (w web) join(r *rand.Rand, row, next, dy, shift int) [][2]api.GdStep {
	xs, many := w.columns[row], len(w.columns[row])
	column := func(k int) int { return w.columns[next][mod(k, many)] + (k-mod(k, many))/many*w.ground.W + shift }
	first := many
	for column(first) > xs[0] {
		first--
	}
	if r.Intn(5) == 0 {
		first += r.Intn(3) - 1
	}
	var steps [][2]api.GdStep
	for k, x := range xs {
		steps = append(steps, [2]api.GdStep{{DX: column(k+first) - x, DY: dy}, {DX: column(k+first+1) - x, DY: dy}})
	}
	return steps
}

// someWeb returns the rows of a ground without steps.
func someWeb(r *rand.Rand) web {
	many := 1 + r.Intn(3)
	w := web{ground: api.GdGround{W: many + r.Intn(5)}}
	for range 2 + r.Intn(3) {
		row := r.Perm(w.ground.W)[:many]
		slices.Sort(row)
		w.columns, w.ys = append(w.columns, row), append(w.ys, w.ground.H)
		w.ground.H += 1 + r.Intn(4)
	}
	return w
}

// node adds a node.
func (w *web) node(r *rand.Rand, x, y int, out [2]api.GdStep) {
	w.ground.Nodes = append(w.ground.Nodes, api.GdNode{X: x, Y: y, Word: words[r.Intn(len(words))], Out: out})
}

// rowed returns a ground of rows. It need not be valid.
func rowed(r *rand.Rand) api.GdGround {
	w := someWeb(r)
	w.ground.Shift = r.Intn(w.ground.W)
	for row, y := range w.ys {
		next, dy, shift := row+1, 0, 0
		if next == len(w.ys) {
			next, dy, shift = 0, w.ground.H, w.ground.Shift
		}
		dy += w.ys[next] - y
		for k, out := range w.join(r, row, next, dy, shift) {
			w.node(r, w.columns[row][k], y, out)
		}
	}
	return w.ground
}

// upright returns a ground of rows that is the same if it is exchanged at its row 0, or its row H / 2: what is above becomes what is below. It need not be valid.
func upright(r *rand.Rand) api.GdGround {
	w := someWeb(r)
	last := len(w.ys) - 1
	w.ground.H = 2 * w.ys[last]
	come := map[[2]int][]api.GdStep{}
	for row, y := range w.ys[:last] {
		for k, out := range w.join(r, row, row+1, w.ys[row+1]-y, 0) {
			x := w.columns[row][k]
			w.node(r, x, y, out)
			for _, s := range out {
				to := [2]int{mod(x+s.DX, w.ground.W), row + 1}
				come[to] = append(come[to], api.GdStep{DX: -s.DX, DY: s.DY})
			}
		}
	}
	for row := last; row > 0; row-- {
		for _, x := range w.columns[row] {
			l := come[[2]int{x, row}]
			if len(l) != 2 {
				return api.GdGround{}
			}
			w.node(r, x, w.ground.H-w.ys[row], [2]api.GdStep{l[0], l[1]})
			if out := &w.ground.Nodes[len(w.ground.Nodes)-1].Out; out[0].DX > out[1].DX {
				out[0], out[1] = out[1], out[0]
			}
		}
	}
	return w.ground
}

// come returns from which nodes of the unit edges come to a node, by which of their steps.
func come(g api.GdGround, i int) [2][2]int {
	var from [2][2]int
	into, _ := grounds.Into(g, i)
	for side, s := range into {
		k, _ := grounds.At(g, g.Nodes[i].X-s.DX, g.Nodes[i].Y-s.DY)
		from[side] = [2]int{k, slices.Index(g.Nodes[k].Out[:], s)}
	}
	return from
}

// thinned returns a valid ground without one of its nodes: the edges go on where its edges lead.
func thinned(g api.GdGround, i int) api.GdGround {
	h := moved(g, 0, 0)
	for side, f := range come(g, i) {
		if f[0] == i {
			return g
		}
		s, more := &h.Nodes[f[0]].Out[f[1]], g.Nodes[i].Out[side]
		s.DX, s.DY = s.DX+more.DX, s.DY+more.DY
	}
	h.Nodes = slices.Delete(h.Nodes, i, i+1)
	return h
}

// nudged returns a valid ground with a node moved, and with it the ends of its edges.
func nudged(g api.GdGround, i, x, y int) api.GdGround {
	h := moved(g, 0, 0)
	for _, f := range come(g, i) {
		s := &h.Nodes[f[0]].Out[f[1]]
		s.DX, s.DY = s.DX+x, s.DY+y
	}
	n := &h.Nodes[i]
	for side := range n.Out {
		n.Out[side].DX, n.Out[side].DY = n.Out[side].DX-x, n.Out[side].DY-y
	}
	n.X, n.Y = n.X+x, n.Y+y
	return moved(h, 0, 0)
}

// moved returns a ground that begins elsewhere: all its nodes are moved by x, y.
func moved(g api.GdGround, x, y int) api.GdGround {
	g.Nodes = slices.Clone(g.Nodes)
	for i := range g.Nodes {
		n := &g.Nodes[i]
		n.X, n.Y = n.X+x, n.Y+y
		units := (n.Y - mod(n.Y, g.H)) / g.H
		n.X, n.Y = mod(n.X-units*g.Shift, g.W), mod(n.Y, g.H)
	}
	return g
}

// someGround returns a valid ground, and, if it is the same when it is exchanged at a row, twice this row; it is so at each H rows of this number as well. Otherwise this number is -1.
func someGround(r *rand.Rand) (api.GdGround, int) {
	even := r.Intn(3) == 0
	for {
		g := rowed(r)
		if even {
			g = upright(r)
		}
		if grounds.Check(g) != api.OK {
			continue
		}
		for range r.Intn(8) {
			i := r.Intn(len(g.Nodes))
			h := thinned(g, i)
			if r.Intn(2) == 0 {
				h = nudged(g, i, r.Intn(3)-1, (r.Intn(3)-1)*(1-btoi(even)))
			}
			// Only in the rows at which all is exchanged a node may be changed alone.
			if y := g.Nodes[i].Y; grounds.Check(h) == api.OK && (!even || 2*y%g.H == 0) {
				g = h
			}
		}
		r.Shuffle(len(g.Nodes), func(i, k int) { g.Nodes[i], g.Nodes[k] = g.Nodes[k], g.Nodes[i] })
		x, y := r.Intn(30)-15, r.Intn(30)-15
		if !even {
			return moved(g, x, y), -1
		}
		return moved(g, x, y), mod(2*y, g.H)
	}
}

func btoi(b bool) int {
	if b {
		return 1
	}
	return 0
}

// steep returns whether no step of a ground leads back over any line.
func steep(g api.GdGround) bool {
	return !slices.ContainsFunc(g.Nodes, func(n api.GdNode) bool {
		return slices.ContainsFunc(n.Out[:], func(s api.GdStep) bool { return max(s.DX, -s.DX) > s.DY })
	})
}

// onLines returns whether a node of a strip lies on the line of a leg.
func onLines(c api.CnCorner) bool {
	for x := c.X; x < c.X+c.W; x++ {
		side := x
		if c.Left {
			side = -x
		}
		if nodeAt(c.Ground, spot{x, c.D - side}) >= 0 || !c.Mirror && nodeAt(c.Ground, spot{x, side - c.A}) >= 0 {
			return true
		}
	}
	return false
}

// goodGround returns what someGround does, most often for a ground with which corners may be straight.
func goodGround(r *rand.Rand) (api.GdGround, int) {
	if r.Intn(8) == 0 {
		return torchon(), 0
	}
	for {
		if g, twice := someGround(r); steep(g) || r.Intn(20) == 0 {
			return g, twice
		}
	}
}

// someCorner returns a corner of a ground with valid numbers, most often one that is straight and fits.
func someCorner(r *rand.Rand, g api.GdGround, twice int) api.CnCorner {
	c := api.CnCorner{Ground: g, X: r.Intn(40) - 20, Left: r.Intn(2) == 0, Mirror: r.Intn(3) == 0}
	c.W = 1 + r.Intn(9)
	if r.Intn(40) == 0 {
		c.W += 20
	}
	someLines(r, &c, twice)
	for r.Intn(30) > 0 && onLines(c) {
		someLines(r, &c, twice)
	}
	someEnds(r, &c)
	return c
}

// someLines sets where the lines of a corner are, most often so that edges meet both in the same points if the ground is the same when it is exchanged at a row.
func someLines(r *rand.Rand, c *api.CnCorner, twice int) {
	c.D = r.Intn(60) - 30
	switch {
	case c.Mirror:
	case twice >= 0 && r.Intn(12) > 0:
		c.A = c.D - twice - (r.Intn(11)-5)*c.Ground.H
	default:
		c.A = r.Intn(40) - 20
	}
}

// someEnds sets where the legs of a corner begin and end: most often so that they are not cut off before the line.
func someEnds(r *rand.Rand, c *api.CnCorner) {
	// The columns of the corner to the right that becomes it, from near to far.
	near, far := c.X, c.X+c.W-1
	if c.Left {
		near, far = -far, -near
	}
	c.Y = c.D - far - r.Intn(14)
	if r.Intn(5) == 0 {
		c.Y = c.D - near - r.Intn(c.W+4)
	}
	switch {
	case c.Mirror && r.Intn(2) == 0:
		c.Last = c.Y
	case c.Mirror:
		c.Last = c.Y + r.Intn(9) - 4
	case r.Intn(5) == 0:
		c.Last = near - c.A + r.Intn(c.W+4)
	default:
		c.Last = far - c.A + r.Intn(14)
	}
}

// otherSide returns the ground that is seen from the other side.
func otherSide(g api.GdGround) api.GdGround {
	g.Nodes = slices.Clone(g.Nodes)
	for i := range g.Nodes {
		n := &g.Nodes[i]
		n.X = mod(-n.X, g.W)
		n.Out = [2]api.GdStep{{DX: -n.Out[1].DX, DY: n.Out[1].DY}, {DX: -n.Out[0].DX, DY: n.Out[0].DY}}
	}
	g.Shift = mod(-g.Shift, g.W)
	return g
}

// exchanged returns what becomes of a corner if left and right are exchanged.
func exchanged(c api.CnCorner) api.CnCorner {
	c.Ground, c.X, c.Left = otherSide(c.Ground), 1-c.X-c.W, !c.Left
	return c
}

// manyCorners calls with four corners of each of many grounds, and what the judge says of them.
func manyCorners(t *testing.T, seed int64, times int, call func(c api.CnCorner, j judgement)) {
	t.Helper()
	r := rand.New(rand.NewSource(seed))
	for range times {
		g, twice := goodGround(r)
		for range 4 {
			c := someCorner(r, g, twice)
			call(c, judge(t, c))
		}
	}
}

// onGrid returns points as the functions do.
func onGrid(l []spot) []api.GrPoint {
	var points []api.GrPoint
	for _, q := range l {
		points = append(points, pt(int64(q.x), int64(q.y)))
	}
	return points
}

// P11.1, P11.3 and P11.4: all functions for many corners, against the judge. The judge also finds the pairs of each node as neighbours (P11.6).
func TestManyCorners(t *testing.T) {
	met := map[string]int{}
	manyCorners(t, 1, 1500, func(c api.CnCorner, j judgement) {
		if e := corners.Check(c); e != j.check {
			t.Fatalf("Check of %v: %d, want %d", c, e, j.check)
		}
		l, e := corners.Fits(c)
		if e != j.check || !slices.Equal(l, j.misses) {
			t.Fatalf("Fits of %v: %v, %d, want %v, %d", c, l, e, j.misses, j.check)
		}
		want := j.check
		switch {
		case want != api.OK:
		case len(j.misses) > 0:
			want = api.ErrForm
		case len(j.works) > api.MaxWorks || j.pairs > api.MaxPairs:
			want = api.ErrLong
		}
		if want != api.OK {
			j.verdict = verdict{}
		}
		s, points, e := corners.Turn(c)
		if e != want || s.Pairs != j.pairs || !slices.Equal(s.Works, j.works) || !slices.Equal(points, onGrid(j.points)) {
			t.Fatalf("Turn of %v: %v, %v, %d, want %v, %d", c, s, points, e, j.verdict, want)
		}
		kind := fmt.Sprint("left ", c.Left, ", mirrored ", c.Mirror, ": ")
		met[kind+fmt.Sprint("error ", j.check, " of Check")]++
		if j.check == api.OK {
			met[kind+fmt.Sprint("error ", e, " of Turn")]++
		}
		for _, m := range l {
			met[kind+fmt.Sprint("a miss of the second leg ", m.Second)]++
		}
		if e == api.OK {
			countWays(met, kind, c, j)
		}
	})
	for _, left := range []bool{false, true} {
		for _, mirror := range []bool{false, true} {
			for _, what := range []string{"error 0 of Check", "error 4 of Check", "error 6 of Check", "error 0 of Turn", "error 6 of Turn", "a miss of the second leg false", "a miss of the second leg true",
				"goes over the line", "goes over the line at the end of the strip", "waits in the leg 0 for the leg 0", "waits in the leg 0 for the leg 1", "waits in the leg 1 for the leg 1", "hangs beside the leg 0", "hangs beside the leg 1"} {
				kind := fmt.Sprint("left ", left, ", mirrored ", mirror, ": ", what)
				if met[kind] < 15 {
					t.Errorf("%s: only %d times", kind, met[kind])
				}
			}
		}
	}
}

// countWays counts of which kinds the ways of the pairs are.
func countWays(met map[string]int, kind string, c api.CnCorner, j judgement) {
	if c.Left {
		c = exchanged(c) // as the ways are
	}
	back := map[*way]bool{}
	for _, w := range j.ways {
		back[w.next] = true
		switch {
		case w.next == nil:
		case w.border != "line":
			met[kind+fmt.Sprint("waits in the leg ", w.leg, " for the leg ", w.next.leg)]++
		default:
			met[kind+"goes over the line"]++
			if twice := 2 * w.at; twice == (2*c.X-1)*parts || twice == (2*(c.X+c.W)-1)*parts {
				met[kind+"goes over the line at the end of the strip"]++
			}
		}
	}
	for _, w := range j.ways {
		if w.enters && !back[w] && (w.border == "left" || w.border == "right") {
			met[kind+fmt.Sprint("hangs beside the leg ", w.leg)]++
		}
	}
}
