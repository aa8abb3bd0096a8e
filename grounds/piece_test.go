package grounds_test

import (
	"cmp"
	"slices"
	"testing"

	"torchon/api"
)

// A way is how a pair goes on, from a node of the cut or from outside, through skipped nodes, to a node of the cut or to the outside: by edges, the last of which comes to a node from a side.
type way struct {
	segs           []seg
	enters, leaves bool
	from, out      int // which node of the cut it leaves, and on which side
	to, in         int // to which node of the cut it comes, and on which side
	border         string
	meets          float64 // where on the border it enters or leaves
	next           *way    // the way of the same pair after it has left and waited
}

// A piece is what a window cuts out, by the definitions.
type piece struct {
	g       api.GdGround
	w       api.GdWindow
	nodes   map[[2]int]int   // all in the window and around it
	skipped map[[2]int]bool  // nodes in the window
	points  [][2]int         // the nodes of the cut
	come    map[[2]int][]seg // the edges that come to a node in the window, the left one first
	ways    []*way           // that begin or end at a node of the cut
}

func (p *piece) inside(x, y int) bool {
	return p.w.X <= x && x < p.w.X+p.w.W && p.w.Y <= y && y < p.w.Y+p.w.H
}

func pieceOf(g api.GdGround, w api.GdWindow, skip []api.GrPoint) *piece {
	p := &piece{g: g, w: w, skipped: map[[2]int]bool{}, come: map[[2]int][]seg{}}
	x0, y0, x1, y1 := w.X-8, w.Y-8, w.X+w.W+8, w.Y+w.H+8
	p.nodes = nodesIn(g, x0, y0, x1, y1)
	for _, q := range skip {
		p.skipped[[2]int{int(q.X), int(q.Y)}] = true
	}
	for q := range placed(g, x0, y0, x1, y1) {
		if p.inside(q[0], q[1]) && !p.skipped[q] {
			p.points = append(p.points, q)
		}
	}
	slices.SortFunc(p.points, func(a, b [2]int) int { return cmp.Or(a[1]-b[1], a[0]-b[0]) })
	all := segsFrom(g, x0, y0, x1, y1)
	for _, s := range all {
		if p.inside(s.u, s.v) {
			p.come[s.end()] = append(p.come[s.end()], s)
		}
	}
	for _, l := range p.come {
		slices.SortFunc(l, func(a, b seg) int { return cmp.Compare(b.slope(), a.slope()) })
	}
	for _, s := range all {
		p.follow(s)
	}
	return p
}

// leaving returns the edge that leaves a node on a side.
func (p *piece) leaving(q [2]int, side int) seg {
	out := p.g.Nodes[p.nodes[q]].Out[side]
	return seg{q[0], q[1], q[0] + out.DX, q[1] + out.DY}
}

// follow adds the way that begins with an edge, if it begins or ends at a node of the cut.
func (p *piece) follow(s seg) {
	begin := [2]int{s.x, s.y}
	w := &way{segs: []seg{s}, enters: !p.inside(s.x, s.y), from: slices.Index(p.points, begin)}
	if p.skipped[begin] || w.enters && !p.inside(s.u, s.v) {
		return
	}
	if s != p.leaving(begin, 0) {
		w.out = 1
	}
	for p.skipped[s.end()] {
		s = p.leaving(s.end(), slices.Index(p.come[s.end()], s))
		w.segs = append(w.segs, s)
	}
	w.leaves, w.to = !p.inside(s.u, s.v), slices.Index(p.points, s.end())
	switch {
	case w.enters && w.leaves:
		return
	case w.enters:
		w.border, w.meets = p.meets(w.segs[0], w.segs[0].x, w.segs[0].y)
	case w.leaves:
		w.border, w.meets = p.meets(s, s.u, s.v)
	}
	if !w.leaves {
		w.in = slices.Index(p.come[s.end()], s)
	}
	p.ways = append(p.ways, w)
}

// meets returns the border that an edge meets whose end x, y is outside, and where.
func (p *piece) meets(s seg, x, y int) (string, float64) {
	atY := func(column float64) float64 {
		return float64(s.y) + float64(s.v-s.y)*(column-float64(s.x))/float64(s.u-s.x)
	}
	atX := func(row float64) float64 {
		return float64(s.x) + float64(s.u-s.x)*(row-float64(s.y))/float64(s.v-s.y)
	}
	top, bottom := float64(p.w.Y)-0.5, float64(p.w.Y+p.w.H)-0.5
	if x < p.w.X {
		if h := atY(float64(p.w.X) - 0.5); top < h && h < bottom {
			return "left", h
		}
	}
	if x >= p.w.X+p.w.W {
		if h := atY(float64(p.w.X+p.w.W) - 0.5); top < h && h < bottom {
			return "right", h
		}
	}
	if y < p.w.Y {
		return "upper", atX(top)
	}
	return "lower", atX(bottom)
}

// at returns the ways that enter or leave at a border, in order.
func (p *piece) at(border string, enter bool) []*way {
	var l []*way
	for _, w := range p.ways {
		if w.border == border && w.enters == enter {
			l = append(l, w)
		}
	}
	slices.SortFunc(l, func(a, b *way) int { return cmp.Compare(a.meets, b.meets) })
	return l
}

// hanging returns the ways that enter at the left or right border and have not left there before, and joins the others with those that have.
func (p *piece) hanging(border string) []*way {
	var hang []*way
	for _, w := range p.at(border, true) {
		var last *way
		for _, l := range p.at(border, false) {
			if l.meets < w.meets && l.next == nil {
				last = l
			}
		}
		if last == nil {
			hang = append(hang, w)
			continue
		}
		last.next = w
	}
	return hang
}

// line returns the ways of the pairs, as they hang at the beginning.
func (p *piece) line() []*way {
	left := p.hanging("left")
	slices.Reverse(left)
	return slices.Concat(left, p.at("upper", true), p.hanging("right"))
}

// sheet works the nodes one after the other, and returns the works. The pairs that come to a node must be neighbours.
func (p *piece) sheet(t *testing.T) api.Sheet {
	t.Helper()
	line := p.line()
	s := api.Sheet{Pairs: len(line)}
	for i, q := range p.points {
		var places []int
		for place, w := range line {
			if w.next != nil {
				line[place] = w.next
			}
			if w = line[place]; !w.leaves && w.to == i {
				places = append(places, place)
			}
		}
		if len(places) != 2 || places[1] != places[0]+1 || line[places[0]].in != 0 || line[places[1]].in != 1 {
			t.Fatalf("%v, the window %v without %v: the pairs of the node %v are in the places %v", p.g, p.w, p.skipped, q, places)
		}
		for _, w := range p.ways {
			if !w.enters && w.from == i {
				line[places[w.out]] = w
			}
		}
		s.Works = append(s.Works, api.Work{Kind: api.WkStitch, At: places[0], Word: p.g.Nodes[p.nodes[q]].Word})
	}
	return s
}
