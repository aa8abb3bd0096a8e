package corners

import (
	"cmp"
	"slices"
)

// A fraction has a den above 0.
type fraction struct{ num, den int }

func (f fraction) compare(g fraction) int {
	return cmp.Compare(f.num*g.den, g.num*f.den)
}

func (f fraction) lowest() fraction {
	a, b := max(f.num, -f.num), f.den
	for a > 0 {
		a, b = b%a, a
	}
	return fraction{f.num / b, f.den / b}
}

// A meeting is that of an edge with a border of its leg: at which x, or at which y of the left or right border.
type meeting struct {
	edge
	at     fraction
	enters bool
}

func (m meeting) compare(n meeting) int {
	return m.at.compare(n.at)
}

// sameAs returns whether another edge meets its border at the same place.
func (m meeting) sameAs(n meeting) bool {
	return m.compare(n) == 0
}

// meetings returns where edges with one end in the leg meet its borders: at its line and the level border from left to right, at the others in the direction of the pairs.
func (l leg) meetings() [right + 1][]meeting {
	var all [right + 1][]meeting
	for _, n := range l.nodes {
		for _, e := range l.coming(n) {
			if !l.inside(e.from) {
				border, at := l.meets(e.to, e.from)
				all[border] = append(all[border], meeting{e, at, true})
			}
		}
		for _, e := range l.leaving(n) {
			if !l.inside(e.to) {
				border, at := l.meets(e.from, e.to)
				all[border] = append(all[border], meeting{e, at, false})
			}
		}
	}
	for border, list := range all {
		slices.SortFunc(list, meeting.compare)
		if l.back && border >= left {
			slices.Reverse(list)
		}
	}
	return all
}

// meets returns which border the way from a point in the leg to one outside meets first, and where.
func (l leg) meets(inner, outer point) (int, fraction) {
	border, way := 0, fraction{1, 1} // the part of the way up to the border; it is never all of it, as no node of the strip lies on a border
	for i, b := range l.borders {
		in, out := b.depth(inner), b.depth(outer)
		if part := (fraction{in, in - out}); out < 0 && part.compare(way) < 0 {
			border, way = i, part
		}
	}
	from, to := inner.x, outer.x
	if border >= left {
		from, to = inner.y, outer.y
	}
	return border, fraction{from*way.den + (to-from)*way.num, way.den}
}

// without returns the meetings that are at the place of no other one.
func without(list, others []meeting) []meeting {
	var alone []meeting
	for _, m := range list {
		if !slices.ContainsFunc(others, m.sameAs) {
			alone = append(alone, m)
		}
	}
	return alone
}
