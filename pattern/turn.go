package pattern

import (
	"slices"
	"strings"

	"torchon/api"
)

// Flip returns a pattern whose left and right are exchanged.
func Flip(p api.Pattern) (api.Pattern, api.Errno) {
	if _, e := Check(p); e != api.OK {
		return api.Pattern{}, e
	}
	q := clone(p)
	for i := range q.Parts {
		x := &q.Parts[i]
		x.From = q.Pairs - x.From - x.Pairs
		x.Flip = x.Kind != api.PtSew && !x.Flip
	}
	return q, api.OK
}

// Tidy returns a pattern without the units and stitches that are not used.
func Tidy(p api.Pattern) (api.Pattern, api.Errno) {
	stitches, units, e := Uses(p)
	if e != api.OK {
		return api.Pattern{}, e
	}
	q := clone(p)
	// A stitch that a cell of a unit with a ground has is used: the ground has the unit at least once.
	q.Stitches, q.Units = used(q.Stitches, stitches), used(q.Units, units)
	index := newIndices(stitches)
	for _, u := range q.Units {
		for _, row := range u.Rows {
			for i := range row {
				row[i].Stitch = index[row[i].Stitch]
			}
		}
	}
	return q, api.OK
}

// used returns the elements whose number of uses is not 0.
func used[T any](l []T, uses []int) []T {
	var kept []T
	for i, x := range l {
		if uses[i] > 0 {
			kept = append(kept, x)
		}
	}
	return kept
}

// newIndices returns the index of each element among those that are used.
func newIndices(uses []int) []int {
	var index []int
	next := 0
	for _, n := range uses {
		index = append(index, next)
		if n > 0 {
			next++
		}
	}
	return index
}

// clone returns a pattern in new memory.
func clone(p api.Pattern) api.Pattern {
	q := api.Pattern{Name: strings.Clone(p.Name), Pairs: p.Pairs}
	for _, s := range p.Stitches {
		q.Stitches = append(q.Stitches, api.PtStitch{Name: strings.Clone(s.Name), Word: strings.Clone(s.Word)})
	}
	for _, u := range p.Units {
		v := api.PtUnit{Name: strings.Clone(u.Name), Pairs: u.Pairs}
		for _, row := range u.Rows {
			v.Rows = append(v.Rows, slices.Clone(row))
		}
		q.Units = append(q.Units, v)
	}
	for _, x := range p.Parts {
		x.Name, x.Sizes = strings.Clone(x.Name), slices.Clone(x.Sizes)
		q.Parts = append(q.Parts, x)
	}
	return q
}
