package grounds

import (
	"slices"
	"strings"

	"torchon/api"
)

// A cut is the plan of a ground, a window, by its upper left and its lower right point, and the nodes in it: all of them, those that are skipped, and the others, for which there are works.
type cut struct {
	plan
	least, most api.GrPoint
	all, points []api.GrPoint
	skipped     map[api.GrPoint]bool
}

// cutOf returns the cut of a ground by a window, or what is wrong.
func cutOf(g api.GdGround, w api.GdWindow, skip []api.GrPoint) (cut, api.Errno) {
	p, e := planOf(g)
	switch {
	case e != api.OK:
		return cut{}, e
	case !validWindow(w):
		return cut{}, api.ErrRange
	case len(skip) > api.MaxWorks:
		return cut{}, api.ErrLong
	}
	c := cut{plan: p, least: point(w.X, w.Y), most: point(w.X+w.W-1, w.Y+w.H-1), skipped: map[api.GrPoint]bool{}}
	if slices.ContainsFunc(skip, func(q api.GrPoint) bool { return !c.has(q) }) {
		return cut{}, api.ErrNone
	}
	for _, q := range skip {
		c.skipped[q] = true
	}
	if len(c.skipped) < len(skip) {
		return cut{}, api.ErrTwice
	}
	c.all = c.inWindow()
	c.points = slices.DeleteFunc(slices.Clone(c.all), func(q api.GrPoint) bool { return c.skipped[q] })
	switch {
	case len(c.points) == 0:
		return cut{}, api.ErrNone
	case len(c.points) > api.MaxWorks:
		return cut{}, api.ErrLong
	}
	return c, api.OK
}

// has returns whether a point is a node of the ground in the window.
func (c cut) has(q api.GrPoint) bool {
	if !c.inside(q) {
		return false
	}
	_, found := c.node(q)
	return found
}

func (c cut) inside(q api.GrPoint) bool {
	return c.least.X <= q.X && q.X <= c.most.X && c.least.Y <= q.Y && q.Y <= c.most.Y
}

// inWindow returns the nodes of the ground in the window, in the order of their works.
func (c cut) inWindow() []api.GrPoint {
	var points []api.GrPoint
	for y := c.least.Y; y <= c.most.Y; y++ {
		for x := c.least.X; x <= c.most.X; x++ {
			if q := (api.GrPoint{X: x, Y: y}); c.has(q) {
				points = append(points, q)
			}
		}
	}
	return points
}

// Cut returns the part of a ground in a window as a sheet, and the points of its works. Pairs bypass the skipped nodes.
func Cut(g api.GdGround, w api.GdWindow, skip []api.GrPoint) (api.Sheet, []api.GrPoint, api.Errno) {
	c, e := cutOf(g, w, skip)
	if e != api.OK {
		return api.Sheet{}, nil, e
	}
	s := c.sheet()
	if s.Pairs > api.MaxPairs {
		return api.Sheet{}, nil, api.ErrLong
	}
	return s, c.points, api.OK
}

// sheet returns the works of a cut, on as many pairs as hang in the line. As pairs that leave and enter keep their places, and those of a node are neighbours, the place of its left pair tells the places of both.
func (c cut) sheet() api.Sheet {
	l := c.line()
	place := map[edge]int{}
	for i, e := range l.hanging {
		place[e] = i
	}
	s := api.Sheet{Pairs: len(l.hanging)}
	for _, q := range c.points {
		i, _ := c.node(q)
		at := place[l.first[c.coming(q)[0]]]
		for side, e := range c.leaving(q) {
			place[e] = at + side
		}
		s.Works = append(s.Works, api.Work{Kind: api.WkStitch, At: at, Word: strings.Clone(c.ground.Nodes[i].Word)})
	}
	return s
}
