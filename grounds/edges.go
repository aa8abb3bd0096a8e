package grounds

import (
	"cmp"

	"torchon/api"
)

// fine is into how many parts columns and rows are divided: twice a multiple of all numbers up to MaxGdStep, so that an edge meets each row, each column, and the lines halfway between them at a whole number of parts.
const fine = 2 * 3 * 5 * 7 * 8

// An edge leads from a node of the ground to another one.
type edge struct {
	from api.GrPoint
	step api.GdStep
}

// edgeTo returns the edge that leads to a point by a step.
func edgeTo(q api.GrPoint, s api.GdStep) edge {
	return edge{api.GrPoint{X: q.X - int64(s.DX), Y: q.Y - int64(s.DY)}, s}
}

func (e edge) to() api.GrPoint {
	return api.GrPoint{X: e.from.X + int64(e.step.DX), Y: e.from.Y + int64(e.step.DY)}
}

// x returns where an edge meets the line at a number of half rows.
func (e edge) x(halfRows int64) int64 {
	return fine*e.from.X + (halfRows-2*e.from.Y)*int64(e.step.DX*(fine/2/e.step.DY))
}

// y returns where an edge that is not upright meets the line at a number of half columns.
func (e edge) y(halfColumns int64) int64 {
	return fine*e.from.Y + (halfColumns-2*e.from.X)*int64(e.step.DY*(fine/2/e.step.DX))
}

// slant compares the directions of two steps: that which leads more to the left is less.
func slant(s, t api.GdStep) int {
	return cmp.Compare(s.DX*t.DY, t.DX*s.DY)
}

// crosses returns whether an edge and another one that begins beside it have a point in common that is not an end of both of them. No edge crosses itself.
func (e edge) crosses(f edge) bool {
	top, bottom := 2*f.from.Y, 2*min(e.to().Y, f.to().Y)
	above, below := cmp.Compare(e.x(top), f.x(top)), cmp.Compare(e.x(bottom), f.x(bottom))
	if above == 0 && e.from != f.from || below == 0 && e.to() != f.to() {
		return true
	}
	return above*below < 0
}
