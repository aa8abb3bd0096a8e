package grids_test

import (
	"cmp"
	"math"
	"math/rand"
	"slices"
	"testing"

	"torchon/api"
	"torchon/grids"
)

// inOrder compares two matrices by A, then B, then C, then D.
func inOrder(m, n api.GrMatrix) int {
	return slices.CompareFunc([]int64{m.A, m.B, m.C, m.D}, []int64{n.A, n.B, n.C, n.D}, cmp.Compare[int64])
}

// squared returns the squared length of a step that is not too long.
func squared(l api.GrLattice, x, y int64) int64 { return l.A*x*x + 2*l.B*x*y + l.C*y*y }

// stepsOf returns all steps of a squared length: for each x, those y that solve the equation.
func stepsOf(l api.GrLattice, length int64) []api.GrPoint {
	var all []api.GrPoint
	det := l.A*l.C - l.B*l.B
	for x := int64(0); x*x*det <= length*l.C; x++ {
		root := int64(math.Sqrt(float64(length*l.C - det*x*x)))
		for sign := int64(-1); sign <= 1; sign += 2 {
			about := (-l.B*x + sign*root) / l.C
			for y := about - 2; y <= about+2; y++ {
				if squared(l, x, y) == length {
					all = append(all, pt(x, y), pt(-x, -y))
				}
			}
		}
	}
	slices.SortFunc(all, func(p, q api.GrPoint) int { return cmp.Or(cmp.Compare(p.X, q.X), cmp.Compare(p.Y, q.Y)) })
	return slices.Compact(all)
}

// leadersOf returns all matrices that lead from one lattice to another one, in order: the steps of the axes have images of their squared lengths.
func leadersOf(from, to api.GrLattice) []api.GrMatrix {
	var all []api.GrMatrix
	seconds := stepsOf(from, to.C)
	for _, s := range stepsOf(from, to.A) {
		for _, u := range seconds {
			if m := mat(s.X, u.X, s.Y, u.Y); leads(m, from, to) {
				all = append(all, m)
			}
		}
	}
	slices.SortFunc(all, inOrder)
	return all
}

// greatLattices are lattices with numbers near the limit, and those in which the images of short steps have great coordinates.
func greatLattices() []api.GrLattice {
	return []api.GrLattice{
		lat(10000, 0, 10000), lat(10000, 9999, 10000), lat(10000, -9999, 10000), lat(10000, 5000, 10000), lat(10000, -5000, 10000),
		lat(1, 0, 10000), lat(10000, 0, 1), lat(1, 99, 10000), lat(10000, 99, 1), lat(10000, -99, 1), lat(2, 141, 10000),
		lat(9661, 9800, 9941), lat(9661, -9800, 9941), lat(9941, 9800, 9661), lat(9997, 1412, 9999), lat(9999, 9999, 10000),
		lat(9900, 9850, 9801), lat(7, 9, 10000), lat(3, 1, 9999), lat(9999, 4999, 10000), lat(9998, 4999, 10000),
	}
}

// P6.3 and the chapter's examples: Group.
func TestGroup(t *testing.T) {
	for _, c := range []struct {
		l    api.GrLattice
		want int
	}{
		{lat(1, 0, 1), 8},
		{lat(2, 1, 2), 12},
		{lat(1, 0, 4), 4},
		{lat(2, 1, 3), 4},
		{lat(3, 1, 5), 2},
		{lat(2, -1, 2), 12},
		{lat(3, 1, 3), 4},
		{lat(3, -1, 5), 2},
		{lat(5, 7, 10), 8},
		{lat(10000, 5000, 10000), 12},
		{lat(10000, 0, 10000), 8},
		{lat(9999, 4999, 10000), 2},
	} {
		if l, e := grids.Group(c.l); len(l) != c.want || e != api.OK {
			t.Errorf("Group of %v: %v, %d, want %d matrices", c.l, l, e, c.want)
		}
	}
	for _, c := range []struct {
		l    api.GrLattice
		want []api.GrMatrix
	}{
		{lat(3, 1, 5), []api.GrMatrix{mat(-1, 0, 0, -1), mat(1, 0, 0, 1)}},
		{lat(1, 0, 4), []api.GrMatrix{mat(-1, 0, 0, -1), mat(-1, 0, 0, 1), mat(1, 0, 0, -1), mat(1, 0, 0, 1)}},
		{lat(2, 1, 3), []api.GrMatrix{mat(-1, -1, 0, 1), mat(-1, 0, 0, -1), mat(1, 0, 0, 1), mat(1, 1, 0, -1)}},
		{lat(1, 0, 1), []api.GrMatrix{mat(-1, 0, 0, -1), mat(-1, 0, 0, 1), mat(0, -1, -1, 0), mat(0, -1, 1, 0), mat(0, 1, -1, 0), mat(0, 1, 1, 0), mat(1, 0, 0, -1), mat(1, 0, 0, 1)}},
		{lat(5, 7, 10), []api.GrMatrix{mat(-7, -10, 5, 7), mat(-5, -8, 3, 5), mat(-5, -6, 4, 5), mat(-1, 0, 0, -1), mat(1, 0, 0, 1), mat(5, 6, -4, -5), mat(5, 8, -3, -5), mat(7, 10, -5, -7)}},
	} {
		if l, e := grids.Group(c.l); !slices.Equal(l, c.want) || e != api.OK {
			t.Errorf("Group of %v: %v, %d, want %v", c.l, l, e, c.want)
		}
	}
}

// P6.3: Group of small lattices is all matrices that keep them, found among all with numbers up to 6. (Each number of such a matrix is at most the greater one of A and C.)
func TestGroupOfSmallLattices(t *testing.T) {
	all := matrices(6)
	for _, l := range smallLattices(6) {
		var want []api.GrMatrix
		for _, m := range all {
			if squared(l, m.A, m.C) == l.A && squared(l, m.B, m.D) == l.C && leads(m, l, l) {
				want = append(want, m)
			}
		}
		if got, e := grids.Group(l); !slices.Equal(got, want) || e != api.OK {
			t.Errorf("Group of %v: %v, %d, want %v", l, got, e, want)
		}
	}
}

// P6.3: Group of greater lattices, against all images that the steps of the axes may have.
func TestGroupOfLattices(t *testing.T) {
	check := func(l api.GrLattice) {
		t.Helper()
		want := leadersOf(l, l)
		if got, e := grids.Group(l); !slices.Equal(got, want) || e != api.OK {
			t.Fatalf("Group of %v: %v, %d, want %v", l, got, e, want)
		}
	}
	for _, l := range smallLattices(14) {
		check(l)
	}
	for _, l := range greatLattices() {
		check(l)
	}
	r := rand.New(rand.NewSource(5))
	for i := range 200 {
		check(someLattice(r, []int64{30, 300, api.MaxGram}[i%3]))
	}
}

// P6.7: matrices of a group keep all squared distances, and Side up to the sign of their determinants.
func TestGroupKeepsDistances(t *testing.T) {
	r := rand.New(rand.NewSource(6))
	for _, l := range append(smallLattices(4), greatLattices()...) {
		group, _ := grids.Group(l)
		for range 10 {
			// Points whose images are valid.
			p, q, s := somePoint(r, 50), somePoint(r, 50), somePoint(r, 50)
			distance, _ := grids.Square(l, p, q)
			side, _ := grids.Side(p, q, s)
			for _, m := range group {
				move := api.GrMove{M: m}
				at, e := grids.Apply(move, p)
				bt, f := grids.Apply(move, q)
				ct, g := grids.Apply(move, s)
				if e != api.OK || f != api.OK || g != api.OK {
					t.Fatalf("%v: images of %v, %v, %v: %d, %d, %d", m, p, q, s, e, f, g)
				}
				if n, e := grids.Square(l, at, bt); n != distance || e != api.OK {
					t.Fatalf("%v in %v: Square of %v, %v: %d, %d, want %d", m, l, at, bt, n, e, distance)
				}
				if n, e := grids.Side(at, bt, ct); int64(n) != determinant(m)*int64(side) || e != api.OK {
					t.Fatalf("%v: Side of %v, %v, %v: %d, %d; before: %d", m, at, bt, ct, n, e, side)
				}
			}
		}
	}
}

// P6.7: products and inverses of matrices of a group are in it; it has 2, 4, 8 or 12 matrices, in order, and their orders divide 12.
func TestGroupIsAGroup(t *testing.T) {
	for _, l := range append(smallLattices(8), greatLattices()...) {
		group, e := grids.Group(l)
		if e != api.OK || !slices.Contains([]int{2, 4, 8, 12}, len(group)) {
			t.Fatalf("Group of %v: %v, %d", l, group, e)
		}
		if !slices.IsSortedFunc(group, inOrder) || len(slices.Compact(slices.Clone(group))) != len(group) {
			t.Fatalf("Group of %v: %v is not in order", l, group)
		}
		for _, m := range group {
			for _, n := range group {
				both, e := grids.Compose(api.GrMove{M: m}, api.GrMove{M: n})
				if e != api.OK || !slices.Contains(group, both.M) {
					t.Fatalf("Group of %v: Compose of %v, %v: %v, %d", l, m, n, both, e)
				}
			}
			back, e := grids.Invert(api.GrMove{M: m})
			if e != api.OK || !slices.Contains(group, back.M) {
				t.Fatalf("Group of %v: Invert of %v: %v, %d", l, m, back, e)
			}
			if k, e := grids.Order(m); k < 1 || 12%k != 0 || e != api.OK {
				t.Fatalf("Group of %v: Order of %v: %d, %d", l, m, k, e)
			}
			if is, e := grids.Keeps(l, m); !is || e != api.OK {
				t.Fatalf("Group of %v: Keeps of %v: %v, %d", l, m, is, e)
			}
		}
	}
}
