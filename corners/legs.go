package corners

import (
	"cmp"
	"slices"

	"torchon/api"
)

// The borders of a leg. Of those that an edge meets at the same point the first one counts.
const (
	diagonal = iota // the line
	level           // the upper line, or the end
	left
	right
)

// A border is a line. The depth of a point, x times its x, y times its y, and rest, is above 0 on the side of the leg.
type border struct{ x, y, rest int }

func (b border) depth(p point) int {
	return b.x*p.x + b.y*p.y + b.rest
}

// A leg is the part of a strip between its borders. Back: its pairs go against the direction of the edges of the ground.
type leg struct {
	strip
	second, back bool
	borders      [right + 1]border
	nodes        []node // in the order of their works; of too many nodes, one more than there may be
}

// legFrom returns the leg that begins with a row and ends at the line of the first leg.
func (s strip) legFrom(row int) leg {
	line := border{-s.side, -1, s.D}
	_, lowest := s.rows(line)
	return s.leg(line, border{0, 2, 1 - 2*row}, row, lowest)
}

// legTo returns the leg that begins at the line of a turned second leg and ends with a row.
func (s strip) legTo(row int) leg {
	line := border{-s.side, 1, s.A}
	highest, _ := s.rows(line)
	return s.leg(line, border{0, -2, 2*row + 1}, highest, row)
}

// rows returns the first and the last row of the points of the strip that lie on a line.
func (s strip) rows(line border) (int, int) {
	a, b := -line.y*(line.x*s.X+line.rest), -line.y*(line.x*(s.X+s.W-1)+line.rest)
	return min(a, b), max(a, b)
}

// leg returns the leg with a line and an upper line or an end, which lies in the rows from least to most.
func (s strip) leg(line, end border, least, most int) leg {
	l := leg{strip: s, borders: [...]border{line, end, {2, 0, 1 - 2*s.X}, {-2, 0, 2*(s.X+s.W) - 1}}}
	for n := range s.inRows(least, most) {
		if l.inside(n.point) {
			l.nodes = append(l.nodes, n)
		}
		if len(l.nodes) > api.MaxWorks {
			break
		}
	}
	slices.SortFunc(l.nodes, func(a, b node) int { return cmp.Or(cmp.Compare(a.y, b.y), cmp.Compare(a.x, b.x)) })
	return l
}

// secondLeg returns the second leg. A mirrored one is like a first leg through which the pairs go back.
func (s strip) secondLeg() leg {
	if !s.Mirror {
		l := s.legTo(s.Last)
		l.second = true
		return l
	}
	l := s.legFrom(s.Last)
	l.second, l.back = true, true
	slices.SortStableFunc(l.nodes, func(a, b node) int { return cmp.Compare(b.y, a.y) })
	return l
}

func (l leg) inside(p point) bool {
	for _, b := range l.borders {
		if b.depth(p) <= 0 {
			return false
		}
	}
	return true
}

// clear returns whether no node in the strip lies on the line of a leg.
func (l leg) clear() bool {
	line := l.borders[diagonal]
	for n := range l.inRows(l.rows(line)) {
		if line.depth(n.point) == 0 {
			return false
		}
	}
	return true
}

// An edge is found by its ends, in the direction of its pair, and by its leg: the same nodes of the ground may be in both legs.
type edge struct {
	second   bool
	from, to point
}

// coming returns the edges by which pairs come to a node, the left one first.
func (l leg) coming(n node) [2]edge {
	a, b := l.above(n)
	if l.back {
		a, b = l.below(n)
	}
	return [2]edge{{l.second, a, n.point}, {l.second, b, n.point}}
}

// leaving returns the edges by which pairs leave a node, the left one first.
func (l leg) leaving(n node) [2]edge {
	a, b := l.below(n)
	if l.back {
		a, b = l.above(n)
	}
	return [2]edge{{l.second, n.point, a}, {l.second, n.point, b}}
}

// above returns from which points the edges of the ground lead to a node.
func (l leg) above(n node) (point, point) {
	into := l.into[n.index]
	return n.minus(into[0]), n.minus(into[1])
}

// below returns to which points the edges of the ground lead from a node.
func (l leg) below(n node) (point, point) {
	out := l.Ground.Nodes[n.index].Out
	return n.plus(out[0]), n.plus(out[1])
}
