package grids_test

import (
	"math/rand"
	"testing"

	"torchon/api"
	"torchon/grids"
)

func isReduced(l api.GrLattice) bool { return 0 <= 2*l.B && 2*l.B <= l.A && l.A <= l.C }

// seen returns the lattice to which a matrix leads.
func seen(l api.GrLattice, m api.GrMatrix) api.GrLattice {
	first, second := pt(m.A, m.C), pt(m.B, m.D)
	return lat(productOf(l, first, first).Int64(), productOf(l, first, second).Int64(), productOf(l, second, second).Int64())
}

// P6.6 and the chapter's example: Reduce.
func TestReduce(t *testing.T) {
	for _, c := range []struct {
		l, want api.GrLattice
		m       api.GrMatrix
	}{
		{lat(5, 7, 10), lat(1, 0, 1), mat(-3, -1, 2, 1)},
		{lat(1, 0, 1), lat(1, 0, 1), mat(-1, 0, 0, -1)},
		{lat(1, 0, 4), lat(1, 0, 4), mat(-1, 0, 0, -1)},
		{lat(4, 0, 1), lat(1, 0, 4), mat(0, -1, -1, 0)},
		{lat(2, 1, 2), lat(2, 1, 2), mat(-1, -1, 0, 1)},
		{lat(2, -1, 2), lat(2, 1, 2), mat(-1, -1, -1, 0)},
		{lat(2, 1, 3), lat(2, 1, 3), mat(-1, -1, 0, 1)},
		{lat(2, -1, 3), lat(2, 1, 3), mat(-1, -1, 0, -1)},
		{lat(3, 1, 5), lat(3, 1, 5), mat(-1, 0, 0, -1)},
		{lat(3, -1, 5), lat(3, 1, 5), mat(-1, 0, 0, 1)},
		{lat(3, 1, 3), lat(3, 1, 3), mat(-1, 0, 0, -1)},
		{lat(4, 3, 4), lat(2, 1, 4), mat(-1, -1, 1, 0)},
		{lat(10000, 0, 10000), lat(10000, 0, 10000), mat(-1, 0, 0, -1)},
		{lat(1, 99, 10000), lat(1, 0, 199), mat(-1, -99, 0, 1)},
		{lat(10000, -99, 1), lat(1, 0, 199), mat(0, -1, -1, -99)},
	} {
		if l, m, e := grids.Reduce(c.l); l != c.want || m != c.m || e != api.OK {
			t.Errorf("Reduce of %v: %v, %v, %d, want %v, %v", c.l, l, m, e, c.want, c.m)
		}
	}
}

// P6.6: Reduce returns a reduced lattice that is equivalent, and the least of all matrices that lead to it.
func TestReduceOfLattices(t *testing.T) {
	check := func(l api.GrLattice) {
		t.Helper()
		reduced, m, e := grids.Reduce(l)
		if e != api.OK || !isReduced(reduced) || grids.Check(reduced) != api.OK || !leads(m, l, reduced) {
			t.Fatalf("Reduce of %v: %v, %v, %d", l, reduced, m, e)
		}
		if all := leadersOf(l, reduced); m != all[0] {
			t.Fatalf("Reduce of %v: %v, %v; these lead to it: %v", l, reduced, m, all)
		}
	}
	for _, l := range smallLattices(14) {
		check(l)
	}
	for _, l := range greatLattices() {
		check(l)
	}
	r := rand.New(rand.NewSource(7))
	for i := range 300 {
		check(someLattice(r, []int64{30, 300, api.MaxGram}[i%3]))
	}
}

// P6.8: equivalent lattices have the same reduced lattice, and a reduced one has itself.
func TestEquivalentLattices(t *testing.T) {
	r := rand.New(rand.NewSource(8))
	for _, l := range smallLattices(12) {
		if !isReduced(l) {
			continue
		}
		for range 40 {
			other := seen(l, someTurn(r, 40))
			if grids.Check(other) != api.OK {
				continue
			}
			if reduced, _, e := grids.Reduce(other); reduced != l || e != api.OK {
				t.Fatalf("Reduce of %v: %v, %d; it is equivalent to %v", other, reduced, e, l)
			}
		}
		if reduced, _, e := grids.Reduce(l); reduced != l || e != api.OK {
			t.Fatalf("Reduce of %v: %v, %d", l, reduced, e)
		}
	}
}

// P6.8: A and C of the reduced lattice are the least squared lengths of two steps that are not parallel, and B is determined by the determinant.
func TestLeastSteps(t *testing.T) {
	for _, l := range smallLattices(9) {
		reduced, _, _ := grids.Reduce(l)
		shortest := func(parallel api.GrPoint) (int64, api.GrPoint) {
			var best api.GrPoint
			for x := int64(-9); x <= 9; x++ {
				for y := int64(-9); y <= 9; y++ {
					if x*parallel.Y != y*parallel.X && (best == pt(0, 0) || squared(l, x, y) < squared(l, best.X, best.Y)) {
						best = pt(x, y)
					}
				}
			}
			return squared(l, best.X, best.Y), best
		}
		a, first := shortest(pt(20, 1))
		c, _ := shortest(first)
		if reduced.A != a || reduced.C != c || reduced.A*reduced.C-reduced.B*reduced.B != l.A*l.C-l.B*l.B {
			t.Fatalf("Reduce of %v: %v; the least squared lengths are %d, %d", l, reduced, a, c)
		}
	}
}
