package sheet

import "torchon/api"

// Line returns the edges in the line after some works.
func Line(s api.Sheet, done []int) ([]int, api.Errno) {
	if _, e := progressOf(s, done); e != api.OK {
		return nil, e
	}
	line := make([]int, s.Pairs)
	for place := range line {
		line[place] = place
	}
	for _, i := range done {
		for side := range sides {
			line[s.Works[i].At+side] = edgeOf(s, i, side)
		}
	}
	return line, api.OK
}

// Ready returns the works that can be done next.
func Ready(s api.Sheet, done []int) ([]int, api.Errno) {
	p, e := progressOf(s, done)
	if e != api.OK {
		return nil, e
	}
	var ready []int
	for i := range s.Works {
		if !p.done.has(i) && !p.waiting.has(i) {
			ready = append(ready, i)
		}
	}
	return ready, api.OK
}

// A progress says which works are done, and which ones follow upon a work that is not. What is done is closed if none of it is waiting.
type progress struct{ done, waiting set }

// progressOf returns how far a sheet is if some works are done; an error if these are no list of its works, or not closed.
func progressOf(s api.Sheet, done []int) (progress, api.Errno) {
	var p progress
	if e := Check(s); e != api.OK {
		return p, e
	}
	for k, i := range done {
		if !isWork(s, i) || k > 0 && i <= done[k-1] {
			return p, api.ErrArg
		}
		p.done.add(i)
	}
	for step := range steps(s) {
		if !p.done.has(step.From) {
			p.waiting.add(step.To)
		}
	}
	if p.done.meets(p.waiting) {
		return p, api.ErrNone
	}
	return p, api.OK
}
