package assemble

import (
	"iter"

	"torchon/api"
)

// A material is what grounds are made of: stitches, and units by their names.
type material struct {
	stitches []api.PtStitch
	units    map[string]api.PtUnit
}

func materialOf(p api.Pattern) material {
	m := material{p.Stitches, map[string]api.PtUnit{}}
	for _, u := range p.Units {
		m.units[u.Name] = u
	}
	return m
}

// ground returns the sheet of a ground as it is without Flip.
func (m material) ground(x api.PtPart) api.Sheet {
	s := api.Sheet{Pairs: x.Pairs}
	for c := range cells(m.units[x.Name], x) {
		s.Works = append(s.Works, api.Work{Kind: api.WkStitch, At: c.At, Word: m.stitches[c.Stitch].Word})
	}
	return s
}

// cells yields the cells of a ground, in the order of its works: a row goes through all copies of the unit that are beside each other before the next row begins.
func cells(u api.PtUnit, x api.PtPart) iter.Seq[api.PtCell] {
	return func(yield func(api.PtCell) bool) {
		for range x.Times {
			for _, row := range u.Rows {
				if !acrossCells(row, u.Pairs, x.Pairs, yield) {
					return
				}
			}
		}
	}
}

// acrossCells yields the cells of a row in each copy of its unit; it returns whether more are wanted.
func acrossCells(row []api.PtCell, step, pairs int, yield func(api.PtCell) bool) bool {
	for begin := 0; begin < pairs; begin += step {
		for _, c := range row {
			if !yield(api.PtCell{At: begin + c.At, Stitch: c.Stitch}) {
				return false
			}
		}
	}
	return true
}
