package grounds_test

import (
	"iter"
	"maps"
	"math/rand"
	"slices"
	"testing"

	"torchon/api"
	"torchon/grounds"
)

// A seg is an edge: the straight line from a point to another one.
type seg struct{ x, y, u, v int }

func (s seg) slope() float64 { return float64(s.u-s.x) / float64(s.v-s.y) }

func (s seg) end() [2]int { return [2]int{s.u, s.v} }

// placed yields the nodes of a ground from x0, y0 to x1, y1, by the definition, with their indices.
func placed(g api.GdGround, x0, y0, x1, y1 int) iter.Seq2[[2]int, int] {
	return func(yield func([2]int, int) bool) {
		for i, n := range g.Nodes {
			for j := (y0-n.Y)/g.H - 1; n.Y+j*g.H <= y1; j++ {
				for k := (x0-n.X-j*g.Shift)/g.W - 1; n.X+j*g.Shift+k*g.W <= x1; k++ {
					x, y := n.X+j*g.Shift+k*g.W, n.Y+j*g.H
					if x >= x0 && y >= y0 && !yield([2]int{x, y}, i) {
						return
					}
				}
			}
		}
	}
}

// nodesIn returns the nodes from x0, y0 to x1, y1 with their indices.
func nodesIn(g api.GdGround, x0, y0, x1, y1 int) map[[2]int]int {
	return maps.Collect(placed(g, x0, y0, x1, y1))
}

// segsFrom returns the edges that leave the nodes from x0, y0 to x1, y1.
func segsFrom(g api.GdGround, x0, y0, x1, y1 int) []seg {
	var all []seg
	for q, i := range placed(g, x0, y0, x1, y1) {
		for _, s := range g.Nodes[i].Out {
			all = append(all, seg{q[0], q[1], q[0] + s.DX, q[1] + s.DY})
		}
	}
	return all
}

// meet reports whether two edges have a point in common that is not an end of both of them: they meet at the part m of the one, and the part n of the other one.
func meet(a, b seg) bool {
	cross := func(x, y, u, v int) int { return x*v - y*u }
	ax, ay, bx, by := a.u-a.x, a.v-a.y, b.u-b.x, b.v-b.y
	d := cross(ax, ay, bx, by)
	m, n := cross(b.x-a.x, b.y-a.y, bx, by), cross(b.x-a.x, b.y-a.y, ax, ay)
	if d == 0 {
		return n == 0 && max(a.y, b.y) < min(a.v, b.v)
	}
	if d < 0 {
		d, m, n = -d, -m, -n
	}
	ends := (m == 0 || m == d) && (n == 0 || n == d)
	return 0 <= m && m <= d && 0 <= n && n <= d && !ends
}

// judge says what is wrong with the nodes and edges of a ground whose numbers and words are valid, by the definitions.
func judge(g api.GdGround) api.Errno {
	const far = api.MaxGdStep
	nodes := nodesIn(g, -far, 0, g.W+far, g.H+far)
	var unit []seg
	form := false
	for i, n := range g.Nodes {
		if nodes[[2]int{n.X, n.Y}] != i {
			return api.ErrTwice
		}
		left := seg{n.X, n.Y, n.X + n.Out[0].DX, n.Y + n.Out[0].DY}
		right := seg{n.X, n.Y, n.X + n.Out[1].DX, n.Y + n.Out[1].DY}
		form = form || left.slope() >= right.slope()
		unit = append(unit, left, right)
	}
	all := segsFrom(g, -2*far, -far, g.W+2*far, g.H+far)
	for _, s := range unit {
		if _, found := nodes[s.end()]; !found {
			return api.ErrNone
		}
		form = form || slices.ContainsFunc(all, func(o seg) bool { return o != s && meet(s, o) })
	}
	for _, n := range g.Nodes {
		come := 0
		for _, s := range all {
			if s.end() == [2]int{n.X, n.Y} {
				come++
			}
		}
		form = form || come != 2
	}
	if form {
		return api.ErrForm
	}
	return api.OK
}

// checkAll compares Check with the judge.
func checkAll(t *testing.T, g api.GdGround, met map[api.Errno]int) {
	t.Helper()
	want := judge(g)
	met[want]++
	if e := grounds.Check(g); e != want {
		t.Fatalf("Check of %v: %d, want %d", g, e, want)
	}
}

// P7.1: all grounds with small units, one node and short steps.
func TestCheckOfOneNode(t *testing.T) {
	var steps []api.GdStep
	for x := -3; x <= 3; x++ {
		for y := 1; y <= 3; y++ {
			steps = append(steps, step(x, y))
		}
	}
	met := map[api.Errno]int{}
	for w := 1; w <= 4; w++ {
		for h := 1; h <= 3; h++ {
			for shift := range w {
				for _, a := range steps {
					for _, b := range steps {
						checkAll(t, ground(w, h, shift, node(w-1, h-1, "", a, b)), met)
					}
				}
			}
		}
	}
	if met[api.OK] < 100 || met[api.ErrNone] < 1000 || met[api.ErrForm] < 500 {
		t.Errorf("the errors were met so often: %v", met)
	}
}

// P7.1: small grounds with two nodes, anywhere.
func TestCheckOfTwoNodes(t *testing.T) {
	r := rand.New(rand.NewSource(1))
	met := map[api.Errno]int{}
	for range 40000 {
		w, h := 1+r.Intn(3), 1+r.Intn(3)
		some := func() api.GdNode {
			left := r.Intn(4) - 2
			return node(r.Intn(w), r.Intn(h), "", step(left, 1+r.Intn(2)), step(left+r.Intn(3), 1+r.Intn(2)))
		}
		checkAll(t, ground(w, h, r.Intn(w), some(), some()), met)
	}
	if met[api.OK] < 50 || met[api.ErrTwice] < 1000 || met[api.ErrNone] < 1000 || met[api.ErrForm] < 1000 {
		t.Errorf("the errors were met so often: %v", met)
	}
}

// P7.1: grounds of all kinds, each with some nodes that were moved or taken out.
func TestCheckOfChangedGrounds(t *testing.T) {
	r := rand.New(rand.NewSource(2))
	met := map[api.Errno]int{}
	for range 1500 {
		g := rowsOf(r)
		checkAll(t, g, met)
		for range 4 {
			h := changed(r, g)
			checkAll(t, h, met)
			if judge(h) == api.OK {
				g = h
			}
		}
	}
	if met[api.OK] < 2000 || met[api.ErrForm] < 1000 {
		t.Errorf("the errors were met so often: %v", met)
	}
}
