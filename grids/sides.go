package grids

import (
	"cmp"

	"torchon/api"
)

// across returns the determinant of two steps.
func across(s, t api.GrPoint) int64 {
	return s.X*t.Y - t.X*s.Y
}

// Side returns on which side of the line from p to q the point r is: 1, 0 or -1.
func Side(p, q, r api.GrPoint) (int, api.Errno) {
	if !validPoints(p, q, r) {
		return 0, api.ErrArg
	}
	return cmp.Compare(across(step(p, q), step(p, r)), 0), api.OK
}

// Parts of a full turn from a direction on, in the order in which they are met.
const (
	start = iota
	firstHalf
	opposite
	secondHalf
)

// part returns in which part of a full turn from one step on another one is met.
func part(from, s api.GrPoint) int {
	switch d := across(from, s); {
	case d > 0:
		return firstHalf
	case d < 0:
		return secondHalf
	case from.X*s.X+from.Y*s.Y > 0:
		return start
	}
	return opposite
}

// Turn returns whether, around o and from the direction to from on, the direction to p is met before that to q (-1), with it (0), or after it (1).
func Turn(o, from, p, q api.GrPoint) (int, api.Errno) {
	if !validPoints(o, from, p, q) || from == o || p == o || q == o {
		return 0, api.ErrArg
	}
	f, s, t := step(o, from), step(o, p), step(o, q)
	if c := cmp.Compare(part(f, s), part(f, t)); c != 0 {
		return c, api.OK
	}
	// Within one part less than half a turn is between both directions.
	return cmp.Compare(0, across(s, t)), api.OK
}
