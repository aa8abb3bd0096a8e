package grids

import (
	"slices"

	"torchon/api"
)

// better returns a matrix that leads closer to the reduced lattice, or false if a lattice is reduced.
func better(l api.GrLattice) (api.GrMatrix, bool) {
	switch {
	case l.A > l.C:
		return api.GrMatrix{B: 1, C: 1}, true
	case l.B < 0:
		return api.GrMatrix{A: 1, D: -1}, true
	case 2*l.B > l.A:
		return api.GrMatrix{A: 1, B: -((2*l.B + l.A) / (2 * l.A)), D: 1}, true
	}
	return api.GrMatrix{}, false
}

// reduced returns the reduced lattice, and a matrix that leads to it.
func reduced(l api.GrLattice) (api.GrLattice, api.GrMatrix) {
	leads := one
	for {
		m, more := better(l)
		if !more {
			return l, leads
		}
		l, leads = led(l, m), times(leads, m)
	}
}

// keepers returns the matrices that keep a reduced lattice. There a step with a coordinate beyond -1 and 1 is longer than those along both axes, or a multiple of one of them; so it is the image of neither, and the numbers of these matrices are from -1 to 1.
func keepers(l api.GrLattice) []api.GrMatrix {
	var all []api.GrMatrix
	for i := range int64(3 * 3 * 3 * 3) {
		m := api.GrMatrix{A: i/27 - 1, B: i/9%3 - 1, C: i/3%3 - 1, D: i%3 - 1}
		if led(l, m) == l {
			all = append(all, m)
		}
	}
	return all
}

// leaders returns the reduced lattice, and all matrices that lead to it.
func leaders(l api.GrLattice) (api.GrLattice, []api.GrMatrix) {
	l, leads := reduced(l)
	all := keepers(l)
	for i, m := range all {
		all[i] = times(leads, m)
	}
	return l, all
}

// Group returns all matrices that keep a lattice, in order.
func Group(l api.GrLattice) ([]api.GrMatrix, api.Errno) {
	if !validLattice(l) {
		return nil, api.ErrArg
	}
	_, group := leaders(l)
	// What leads to the reduced lattice, and back by one of the same matrices, keeps the lattice.
	back := inverse(group[0])
	for i, m := range group {
		group[i] = times(m, back)
	}
	slices.SortFunc(group, compare)
	return group, api.OK
}

// Reduce returns the reduced lattice, and the least matrix that leads to it.
func Reduce(l api.GrLattice) (api.GrLattice, api.GrMatrix, api.Errno) {
	if !validLattice(l) {
		return api.GrLattice{}, api.GrMatrix{}, api.ErrArg
	}
	l, all := leaders(l)
	return l, slices.MinFunc(all, compare), api.OK
}
