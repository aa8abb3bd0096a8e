package corners_test

import (
	"cmp"
	"slices"
	"testing"

	"torchon/api"
	"torchon/grounds"
)

// The judge says what the functions must return, by the sentences of the chapter. All of them describe a corner to the right; of one to the left it judges what becomes of it if left and right are exchanged.

// parts is into how many parts rows and columns are divided: edges meet borders at a whole number of them.
const parts = 2 * 720720

type spot struct{ x, y int }

// A seg is an edge of the ground.
type seg struct{ from, to spot }

func (s seg) slope() float64 { return float64(s.to.x-s.from.x) / float64(s.to.y-s.from.y) }

// A way is how a pair goes along an edge of a leg.
type way struct {
	leg            int
	from, to       spot
	out, in        int // on which side of these nodes
	enters, leaves bool
	border         string
	at             int  // where it meets it
	next           *way // of the same pair, after it has left
}

// A piece is a corner to the right with what lies around it.
type piece struct {
	c      api.CnCorner
	nodes  map[spot]int
	starts map[spot][]seg // from left to right
	ends   map[spot][]seg
	legs   [2][]spot
	ways   []*way
}

// in returns whether a point is in a leg.
func (p *piece) in(leg int, q spot) bool {
	switch {
	case q.x < p.c.X || q.x > p.c.X+p.c.W-1:
		return false
	case leg == 0:
		return q.y >= p.c.Y && q.x+q.y < p.c.D
	case p.c.Mirror:
		return q.y >= p.c.Last && q.x+q.y < p.c.D
	}
	return q.y <= p.c.Last && q.y-q.x > -p.c.A
}

// onLine returns whether a point is on the line of a leg.
func (p *piece) onLine(q spot) bool {
	if p.c.Mirror || q.x+q.y == p.c.D {
		return q.x+q.y == p.c.D
	}
	return q.y-q.x == -p.c.A
}

// nodeAt returns which node of the unit is moved to a point, or -1.
func nodeAt(g api.GdGround, q spot) int {
	return slices.IndexFunc(g.Nodes, func(n api.GdNode) bool {
		units := (q.y - n.Y) / g.H
		return n.Y+units*g.H == q.y && (q.x-n.X-units*g.Shift)%g.W == 0
	})
}

func pieceOf(c api.CnCorner) *piece {
	p := &piece{c: c, nodes: map[spot]int{}, starts: map[spot][]seg{}, ends: map[spot][]seg{}}
	right := c.X + c.W - 1
	rows := []int{c.Y, c.Last, c.D - c.X, c.D - right, c.X - c.A, right - c.A}
	for y := slices.Min(rows) - 9; y <= slices.Max(rows)+9; y++ {
		for x := c.X - 9; x <= right+9; x++ {
			q := spot{x, y}
			i := nodeAt(c.Ground, q)
			if i < 0 {
				continue
			}
			p.nodes[q] = i
			for _, t := range c.Ground.Nodes[i].Out {
				s := seg{q, spot{x + t.DX, y + t.DY}}
				p.starts[q], p.ends[s.to] = append(p.starts[q], s), append(p.ends[s.to], s)
			}
			for leg := range p.legs {
				if p.in(leg, q) {
					p.legs[leg] = append(p.legs[leg], q)
				}
			}
		}
	}
	// The nodes are found row by row from left to right; a mirrored leg has the last row first.
	if c.Mirror {
		slices.SortStableFunc(p.legs[1], func(a, b spot) int { return b.y - a.y })
	}
	for q := range p.nodes {
		slices.SortFunc(p.starts[q], func(s, t seg) int { return cmp.Compare(s.slope(), t.slope()) })
		slices.SortFunc(p.ends[q], func(s, t seg) int { return cmp.Compare(t.slope(), s.slope()) })
	}
	return p
}

// check judges a corner to the right whose ground and numbers are valid.
func (p *piece) check() api.Errno {
	many := [2]int{len(p.legs[0]), len(p.legs[1])}
	if many[0] > 400 || many[1] > 400 {
		return api.ErrLong
	}
	if many[0] == 0 || many[1] == 0 {
		return api.ErrNone
	}
	for q := range p.nodes {
		if p.c.X <= q.x && q.x < p.c.X+p.c.W && p.onLine(q) {
			return api.ErrForm
		}
	}
	for _, n := range p.c.Ground.Nodes {
		for _, s := range n.Out {
			if s.DX+s.DY < 0 || !p.c.Mirror && s.DY-s.DX < 0 {
				return api.ErrForm
			}
		}
	}
	return api.OK
}

// follow finds the ways along the edges of both legs.
func (p *piece) follow() {
	for _, starts := range p.starts {
		for out, s := range starts {
			in := slices.Index(p.ends[s.to], s)
			for leg := range p.legs {
				w := &way{leg: leg, from: s.from, to: s.to, out: out, in: in}
				if leg == 1 && p.c.Mirror {
					w = &way{leg: leg, from: s.to, to: s.from, out: in, in: out}
				}
				w.enters, w.leaves = !p.in(leg, w.from), !p.in(leg, w.to)
				if w.enters && w.leaves {
					continue
				}
				if w.enters {
					w.border, w.at = p.meets(leg, s, w.to)
				}
				if w.leaves {
					w.border, w.at = p.meets(leg, s, w.from)
				}
				p.ways = append(p.ways, w)
			}
		}
	}
}

// meets returns the border that an edge meets next to its end in a leg, and where: each line is met at some share of the edge.
func (p *piece) meets(leg int, s seg, inner spot) (string, int) {
	x, y, dx, dy := s.from.x, s.from.y, s.to.x-s.from.x, s.to.y-s.from.y
	border, least, where := "", 1<<60, 0
	try := func(name string, num, den int, upright bool) {
		if den < 0 {
			num, den = -num, -den
		}
		if den == 0 || num < 0 || num > den {
			return
		}
		atX, atY := x*parts+dx*num*(parts/den), y*parts+dy*num*(parts/den)
		if far := max(atY-inner.y*parts, inner.y*parts-atY); far < least {
			border, least, where = name, far, atX
			if upright {
				where = atY
			}
		}
	}
	try2 := func(name string, twice, from, by int, upright bool) { try(name, twice-2*from, 2*by, upright) }
	if leg == 0 || p.c.Mirror {
		try("line", p.c.D-x-y, dx+dy, false)
	} else {
		try("line", -p.c.A-(y-x), dy-dx, false)
	}
	switch {
	case leg == 0:
		try2("upper", 2*p.c.Y-1, y, dy, false)
	case p.c.Mirror:
		try2("end", 2*p.c.Last-1, y, dy, false)
	default:
		try2("end", 2*p.c.Last+1, y, dy, false)
	}
	try2("left", 2*p.c.X-1, x, dx, true)
	try2("right", 2*(p.c.X+p.c.W)-1, x, dx, true)
	return border, where
}

// at returns the ways of a leg that meet a border, in order.
func (p *piece) at(leg int, border string) []*way {
	var l []*way
	for _, w := range p.ways {
		if w.leg == leg && w.border == border {
			l = append(l, w)
		}
	}
	slices.SortFunc(l, func(a, b *way) int {
		if leg == 1 && p.c.Mirror && (border == "left" || border == "right") {
			return b.at - a.at
		}
		return a.at - b.at
	})
	return l
}

// misses returns the points of the line that only edges of one leg meet.
func (p *piece) misses() []api.CnMiss {
	var misses []api.CnMiss
	lines := [2][]*way{p.at(0, "line"), p.at(1, "line")}
	for leg, line := range lines {
		for _, w := range line {
			if !slices.ContainsFunc(lines[1-leg], func(o *way) bool { return o.at == w.at }) {
				k := gcd(w.at, parts)
				misses = append(misses, api.CnMiss{Num: w.at / k, Den: parts / k, Second: leg == 1})
			}
		}
	}
	slices.SortFunc(misses, func(m, n api.CnMiss) int { return m.Num*n.Den - n.Num*m.Den })
	return misses
}

func gcd(a, b int) int {
	if b == 0 {
		return max(a, -a)
	}
	return gcd(b, a%b)
}

// hanging returns the ways of those that enter at the left or right border and find nobody there, and joins the others with those that wait.
func (p *piece) hanging(border string) []*way {
	var hang, left []*way
	for _, w := range append(p.at(0, border), p.at(1, border)...) {
		if w.leaves {
			left = append(left, w)
			continue
		}
		var last *way
		for _, o := range left {
			if o.next == nil {
				last = o
			}
		}
		if last == nil {
			hang = append(hang, w)
		} else {
			last.next = w
		}
	}
	return hang
}

// line returns the ways of the pairs, as they hang at the beginning, if the legs fit.
func (p *piece) line() []*way {
	for _, w := range p.at(0, "line") {
		i := slices.IndexFunc(p.at(1, "line"), func(o *way) bool { return o.at == w.at })
		w.next = p.at(1, "line")[i]
	}
	left := p.hanging("left")
	slices.Reverse(left)
	return slices.Concat(left, p.at(0, "upper"), p.hanging("right"))
}

// image returns where a point lies in the second leg.
func (p *piece) image(q spot) spot {
	if p.c.Mirror {
		return spot{p.c.D - q.y, p.c.D - q.x}
	}
	return spot{p.c.A + q.y, p.c.D - q.x}
}

// A verdict is what Turn must return for a corner that fits, even if that is too much.
type verdict struct {
	pairs  int
	works  []api.Work
	points []spot
}

// turn works the nodes one after the other. The pairs that come to a node must be neighbours.
func (p *piece) turn(t *testing.T) verdict {
	t.Helper()
	line := p.line()
	v := verdict{pairs: len(line)}
	for leg, nodes := range p.legs {
		for _, q := range nodes {
			var places []int
			for place, w := range line {
				if w.next != nil {
					line[place] = w.next
				}
				if w = line[place]; !w.leaves && w.leg == leg && w.to == q {
					places = append(places, place)
				}
			}
			if len(places) != 2 || places[1] != places[0]+1 || line[places[0]].in != 0 || line[places[1]].in != 1 {
				t.Fatalf("%v: the pairs of the node %v of the leg %d are in the places %v", p.c, q, leg, places)
			}
			for _, w := range p.ways {
				if !w.enters && w.leg == leg && w.from == q {
					line[places[w.out]] = w
				}
			}
			v.works = append(v.works, api.Work{Kind: api.WkStitch, At: places[0], Word: p.c.Ground.Nodes[p.nodes[q]].Word})
			if leg == 1 {
				q = p.image(q)
			}
			v.points = append(v.points, q)
		}
	}
	return v
}

// A judgement is all that is to be said of a corner whose numbers are valid, to the right or to the left.
type judgement struct {
	check  api.Errno
	misses []api.CnMiss
	verdict
	ways  []*way // as they are if the corner is to the right
	first int    // works of the first leg
}

// judge judges a corner whose numbers, but for those of its ground, are valid.
func judge(t *testing.T, c api.CnCorner) judgement {
	t.Helper()
	if e := grounds.Check(c.Ground); e != api.OK {
		return judgement{check: e}
	}
	if c.Left {
		return judge(t, exchanged(c)).exchanged(c.D)
	}
	p := pieceOf(c)
	j := judgement{check: p.check(), first: len(p.legs[0])}
	if j.check != api.OK {
		return j
	}
	p.follow()
	j.misses, j.ways = p.misses(), p.ways
	if len(j.misses) == 0 {
		j.verdict = p.turn(t)
	}
	return j
}

// exchanged returns the judgement of a corner to the left with the number D, if that of the corner to the right is given: the nodes of a row come in the opposite order.
func (j judgement) exchanged(d int) judgement {
	slices.Reverse(j.misses)
	for i := range j.misses {
		j.misses[i].Num = -j.misses[i].Num
	}
	type one struct {
		row, x int
		work   api.Work
		point  spot
	}
	var all []one
	for i, q := range j.points {
		q.x = -q.x
		o := one{q.y, q.x, j.works[i], q}
		if i >= j.first { // the image of x, y has its x from y, and its y from x
			o.row, o.x = q.x, q.y-d
		}
		o.work.At = j.pairs - 2 - o.work.At
		all = append(all, o)
	}
	for from := 0; from < len(all); {
		to := from + 1
		for to < len(all) && to != j.first && all[to].row == all[from].row {
			to++
		}
		slices.SortFunc(all[from:to], func(a, b one) int { return a.x - b.x })
		from = to
	}
	for i, o := range all {
		j.works[i], j.points[i] = o.work, o.point
	}
	return j
}
