package traces

import (
	"slices"

	"torchon/api"
	"torchon/sheet"
)

// end stands for a work where there is none: at the top, and at the bottom.
const end = -1

// A front is how far a sheet is done: which work comes next at each place.
type front struct {
	sheet api.Sheet
	edges []api.ShEdge
	next  [api.MaxPairs]int
}

// frontOf returns the front of a sheet of which nothing is done; an error if it is no sheet.
func frontOf(s api.Sheet) (front, api.Errno) {
	edges, e := sheet.Edges(s)
	if e != api.OK {
		return front{}, e
	}
	f := front{sheet: s, edges: edges}
	for place := range s.Pairs {
		f.next[place] = edges[place].To
	}
	return f, api.OK
}

// ready returns the work that can be done next with the pairs in the places at and at + 1, and whether there is one.
func (f *front) ready(at int) (int, bool) {
	i := f.next[at]
	return i, i != end && i == f.next[at+1]
}

// do does a work that is ready.
func (f *front) do(i int) {
	at, after := f.sheet.Works[i].At, f.sheet.Pairs+2*i
	f.next[at], f.next[at+1] = f.edges[after].To, f.edges[after+1].To
}

// Least returns the order in which the work most to the left is always done first.
func Least(s api.Sheet) ([]int, api.Errno) {
	f, e := frontOf(s)
	if e != api.OK {
		return nil, e
	}
	order := make([]int, 0, len(s.Works))
	for at := 0; len(order) < len(s.Works); {
		i, ok := f.ready(at)
		if !ok {
			at++
			continue
		}
		f.do(i)
		order = append(order, i)
		// No work further to the left has become ready, since none takes these places.
		at = max(at-1, 0)
	}
	return order, api.OK
}

// steps returns the edges from one work to another one, those from earlier works first; an error if it is no sheet.
func steps(s api.Sheet) ([]api.ShEdge, api.Errno) {
	edges, e := sheet.Edges(s)
	outside := func(edge api.ShEdge) bool { return edge.From == end || edge.To == end }
	return slices.DeleteFunc(edges, outside), e
}

// Levels returns for each work how many works are in the longest chain before it.
func Levels(s api.Sheet) ([]int, api.Errno) {
	all, e := steps(s)
	if e != api.OK {
		return nil, e
	}
	levels := make([]int, len(s.Works))
	for _, step := range all {
		levels[step.To] = max(levels[step.To], levels[step.From]+1)
	}
	return levels, api.OK
}
