package corners

import (
	"iter"
	"slices"

	"torchon/api"
	"torchon/grounds"
)

func between[N int | int64](least, n, most N) bool {
	return least <= n && n <= most
}

// validNumbers returns whether all numbers of a corner but those of its ground are in their ranges.
func validNumbers(c api.CnCorner) bool {
	for _, place := range [...]int{c.X, c.Y, c.Last, c.D, c.A} {
		if !between(-api.MaxGdPlace, place, api.MaxGdPlace) {
			return false
		}
	}
	return between(1, c.W, api.MaxGdWindow) && !(c.Mirror && c.A != 0)
}

type point struct{ x, y int }

func (p point) plus(s api.GdStep) point { return point{p.x + s.DX, p.y + s.DY} }

func (p point) minus(s api.GdStep) point { return point{p.x - s.DX, p.y - s.DY} }

func (p point) onGrid() api.GrPoint { return api.GrPoint{X: int64(p.x), Y: int64(p.y)} }

// A node of the ground is one of the unit, moved to a point.
type node struct {
	point
	index int
}

// A strip is that of a corner. What is said of greater x in a corner to the right is said of side times x: in one to the left, side is -1.
type strip struct {
	api.CnCorner
	side int
	into [][2]api.GdStep // the steps that lead to the nodes of the unit, that of the left edge first
}

// stripOf returns the strip of a corner whose ground and numbers are valid.
func stripOf(c api.CnCorner) strip {
	s := strip{CnCorner: c, side: 1}
	if c.Left {
		s.side = -1
	}
	for i := range c.Ground.Nodes {
		into, _ := grounds.Into(c.Ground, i)
		s.into = append(s.into, into)
	}
	return s
}

// inRows yields the nodes of the ground in the strip, from one row to another one.
func (s strip) inRows(least, most int) iter.Seq[node] {
	return func(yield func(node) bool) {
		g := s.Ground
		for i, n := range g.Nodes {
			for y := least + mod(n.Y-least, g.H); y <= most; y += g.H {
				x := n.X + (y-n.Y)/g.H*g.Shift
				for x = s.X + mod(x-s.X, g.W); x < s.X+s.W; x += g.W {
					if !yield(node{point{x, y}, i}) {
						return
					}
				}
			}
		}
	}
}

// mod returns the remainder of a division that rounds down.
func mod(a, b int) int {
	return (a%b + b) % b
}

// leadsBack returns whether a step of a node leads back over a line.
func (s strip) leadsBack(n api.GdNode) bool {
	return slices.ContainsFunc(n.Out[:], func(t api.GdStep) bool {
		return t.DY+s.side*t.DX < 0 || !s.Mirror && t.DY-s.side*t.DX < 0
	})
}

// move returns the move from the second leg, as it is in the ground, to where it lies behind the corner.
func (s strip) move() api.GrMove {
	side, a, d := int64(s.side), int64(s.A), int64(s.D)
	if s.Mirror {
		return api.GrMove{M: api.GrMatrix{B: -side, C: -side}, T: api.GrPoint{X: side * d, Y: d}}
	}
	return api.GrMove{M: api.GrMatrix{B: side, C: -side}, T: api.GrPoint{X: side * a, Y: d}}
}
