package grounds

import (
	"cmp"
	"iter"
	"slices"

	"torchon/api"
)

// Borders of a window.
const (
	left = iota
	upper
	right
	lower
)

// A meeting is where on a border a pair enters or leaves, and the first and the last edge of its way: from a node of the cut or from outside, through skipped nodes, to a node of the cut or to the outside.
type meeting struct {
	at          int64
	first, last edge
	enters      bool
}

// A line is the pairs of a cut: the edges by which those that hang from the beginning enter, from left to right; and, for each edge by which a pair comes to a node of the cut, the edge by which the same pair left the previous node, or entered.
type line struct {
	hanging []edge
	first   map[edge]edge
}

// line returns the line of pairs of a cut.
func (c cut) line() line {
	l := line{first: map[edge]edge{}}
	var borders [lower + 1][]meeting
	for first := range c.starts() {
		last := c.goOn(first)
		switch enters, leaves := !c.inside(first.from), !c.inside(last.to()); {
		case enters && leaves:
			// The pair never comes to a node of the cut.
		case enters:
			border, at := c.meets(first, first.from)
			borders[border] = append(borders[border], meeting{at, first, last, true})
		case leaves:
			border, at := c.meets(last, last.to())
			borders[border] = append(borders[border], meeting{at, first, last, false})
		default:
			l.first[last] = first
		}
	}
	atLeft := l.enter(borders[left])
	slices.Reverse(atLeft)
	l.hanging = slices.Concat(atLeft, l.enter(borders[upper]), l.enter(borders[right]))
	return l
}

// starts yields the edges by which pairs leave nodes of the cut, and those by which they come from outside.
func (c cut) starts() iter.Seq[edge] {
	return func(yield func(edge) bool) {
		for _, q := range c.all {
			for _, e := range c.coming(q) {
				if !c.inside(e.from) && !yield(e) {
					return
				}
			}
			for _, e := range c.leaving(q) {
				if !c.skipped[q] && !yield(e) {
					return
				}
			}
		}
	}
}

// goOn returns the last one of the edges by which a pair goes on from an edge through skipped nodes.
func (c cut) goOn(e edge) edge {
	for c.skipped[e.to()] {
		coming := c.coming(e.to())
		e = c.leaving(e.to())[slices.Index(coming[:], e)]
	}
	return e
}

// meets returns which border an edge meets that has one end in the window, and the other one at a point outside, and where.
func (c cut) meets(e edge, outside api.GrPoint) (int, int64) {
	if outside.X < c.least.X {
		if y := e.y(2*c.least.X - 1); c.beside(y) {
			return left, y
		}
	}
	if outside.X > c.most.X {
		if y := e.y(2*c.most.X + 1); c.beside(y) {
			return right, y
		}
	}
	if outside.Y > c.most.Y {
		return lower, e.x(2*c.most.Y + 1)
	}
	return upper, e.x(2*c.least.Y - 1)
}

// beside returns whether a y, in fine parts, is between the upper and the lower border.
func (c cut) beside(y int64) bool {
	return (2*c.least.Y-1)*(fine/2) < y && y < (2*c.most.Y+1)*(fine/2)
}

// enter lets pairs leave and enter at a border, one after the other: one that enters is the last one of those that wait there, if there are any. It returns the edges by which the others enter.
func (l line) enter(border []meeting) []edge {
	slices.SortFunc(border, func(m, n meeting) int { return cmp.Compare(m.at, n.at) })
	var waiting, hanging []edge
	for _, m := range border {
		switch {
		case !m.enters:
			waiting = append(waiting, m.first)
		case len(waiting) > 0:
			l.first[m.last] = waiting[len(waiting)-1]
			waiting = waiting[:len(waiting)-1]
		default:
			l.first[m.last] = m.first
			hanging = append(hanging, m.first)
		}
	}
	return hanging
}
