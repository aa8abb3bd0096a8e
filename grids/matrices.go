package grids

import (
	"cmp"

	"torchon/api"
)

var one = api.GrMatrix{A: 1, D: 1}

func determinant(m api.GrMatrix) int64 {
	return m.A*m.D - m.B*m.C
}

// times returns the matrix that first applies n and then m.
func times(m, n api.GrMatrix) api.GrMatrix {
	return api.GrMatrix{
		A: m.A*n.A + m.B*n.C, B: m.A*n.B + m.B*n.D,
		C: m.C*n.A + m.D*n.C, D: m.C*n.B + m.D*n.D,
	}
}

// inverse returns the inverse of a matrix with the determinant 1 or -1.
func inverse(m api.GrMatrix) api.GrMatrix {
	d := determinant(m)
	return api.GrMatrix{A: d * m.D, B: -d * m.B, C: -d * m.C, D: d * m.A}
}

func compare(m, n api.GrMatrix) int {
	return cmp.Or(cmp.Compare(m.A, n.A), cmp.Compare(m.B, n.B), cmp.Compare(m.C, n.C), cmp.Compare(m.D, n.D))
}

// led returns the lattice in which the product of two steps is that of their images in l.
func led(l api.GrLattice, m api.GrMatrix) api.GrLattice {
	first, second := api.GrPoint{X: m.A, Y: m.C}, api.GrPoint{X: m.B, Y: m.D}
	return api.GrLattice{A: product(l, first, first), B: product(l, first, second), C: product(l, second, second)}
}

// Keeps reports whether a matrix keeps a lattice.
func Keeps(l api.GrLattice, m api.GrMatrix) (bool, api.Errno) {
	if !validLattice(l) || !validMatrix(m) {
		return false, api.ErrArg
	}
	return led(l, m) == l, api.OK
}

const maxOrder = 12

// Order returns how many times a matrix must be applied to map each step to itself, or 0 if that is never so.
func Order(m api.GrMatrix) (int, api.Errno) {
	if !validMatrix(m) {
		return 0, api.ErrArg
	}
	power := m
	for k := range maxOrder {
		if power == one {
			return k + 1, api.OK
		}
		power = times(m, power)
		// Each power of a matrix that has an order is the matrix, its inverse, or the matrix one, but for the sign: so greater numbers mean that there is none, and need not fit any further.
		if !validMatrix(power) {
			break
		}
	}
	return 0, api.OK
}
