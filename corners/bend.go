package corners

import (
	"slices"
	"strings"

	"torchon/api"
	"torchon/grids"
	"torchon/grounds"
)

// A bend is the strip of a valid corner, and its legs.
type bend struct {
	strip
	first, second leg
}

// bendOf returns the bend of a corner, or what is wrong with the corner.
func bendOf(c api.CnCorner) (bend, api.Errno) {
	if e := grounds.Check(c.Ground); e != api.OK {
		return bend{}, e
	}
	if !validNumbers(c) {
		return bend{}, api.ErrRange
	}
	b := bend{strip: stripOf(c)}
	b.first, b.second = b.legFrom(c.Y), b.secondLeg()
	switch {
	case max(len(b.first.nodes), len(b.second.nodes)) > api.MaxWorks:
		return bend{}, api.ErrLong
	case min(len(b.first.nodes), len(b.second.nodes)) == 0:
		return bend{}, api.ErrNone
	case !b.straight():
		return bend{}, api.ErrForm
	}
	return b, api.OK
}

func (b bend) straight() bool {
	return b.first.clear() && b.second.clear() && !slices.ContainsFunc(b.Ground.Nodes, b.leadsBack)
}

// misses returns where on the line an edge of one leg meets no edge of the other one.
func (b bend) misses() []api.CnMiss {
	first, second := b.first.meetings()[diagonal], b.second.meetings()[diagonal]
	missing := slices.Concat(without(first, second), without(second, first))
	slices.SortFunc(missing, meeting.compare)
	var misses []api.CnMiss
	for _, m := range missing {
		at := m.at.lowest()
		misses = append(misses, api.CnMiss{Num: at.num, Den: at.den, Second: m.second})
	}
	return misses
}

// A course is how the pairs of a bend go on: the edges by which those that hang from the beginning come, from left to right; and, for each edge by which a pair leaves a leg and goes on over the line, or waits and comes back, the edge by which it does.
type course struct {
	hanging []edge
	next    map[edge]edge
}

// course returns how the pairs of a bend whose legs fit go on.
func (b bend) course() course {
	c := course{next: map[edge]edge{}}
	first, second := b.first.meetings(), b.second.meetings()
	for i, m := range first[diagonal] {
		c.next[m.edge] = second[diagonal][i].edge
	}
	c.hanging = c.enter(slices.Concat(first[left], second[left]))
	slices.Reverse(c.hanging)
	for _, m := range first[level] {
		c.hanging = append(c.hanging, m.edge)
	}
	c.hanging = append(c.hanging, c.enter(slices.Concat(first[right], second[right]))...)
	return c
}

// enter lets pairs leave and enter at the left or right end of the strip, one after the other: one that enters is the last one of those that wait there, if there are any. It returns the edges by which the others enter.
func (c course) enter(border []meeting) []edge {
	var waiting, hanging []edge
	for _, m := range border {
		last := len(waiting) - 1
		switch {
		case !m.enters:
			waiting = append(waiting, m.edge)
		case last >= 0:
			c.next[waiting[last]] = m.edge
			waiting = waiting[:last]
		default:
			hanging = append(hanging, m.edge)
		}
	}
	return hanging
}

// sheet returns the works of both legs. As pairs that leave, and go on or come back, keep their places, and those of a node are neighbours, the place of its left pair tells the places of both.
func (b bend) sheet() api.Sheet {
	c := b.course()
	place := map[edge]int{}
	for i, e := range c.hanging {
		place[e] = i
	}
	s := api.Sheet{Pairs: len(c.hanging)}
	for _, l := range [...]leg{b.first, b.second} {
		for _, n := range l.nodes {
			at := place[l.coming(n)[0]]
			for side, e := range l.leaving(n) {
				if next, found := c.next[e]; found {
					e = next
				}
				place[e] = at + side
			}
			s.Works = append(s.Works, api.Work{Kind: api.WkStitch, At: at, Word: strings.Clone(b.Ground.Nodes[n.index].Word)})
		}
	}
	return s
}

// points returns the points of the works: those of the second leg are images.
func (b bend) points() []api.GrPoint {
	var points []api.GrPoint
	for _, n := range b.first.nodes {
		points = append(points, n.onGrid())
	}
	for _, n := range b.second.nodes {
		image, _ := grids.Apply(b.move(), n.onGrid()) // it is not far away
		points = append(points, image)
	}
	return points
}
