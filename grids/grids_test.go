package grids_test

import (
	"math"
	"math/big"
	"math/rand"
	"testing"

	"torchon/api"
	"torchon/grids"
)

func pt(x, y int64) api.GrPoint { return api.GrPoint{X: x, Y: y} }

func lat(a, b, c int64) api.GrLattice { return api.GrLattice{A: a, B: b, C: c} }

func mat(a, b, c, d int64) api.GrMatrix { return api.GrMatrix{A: a, B: b, C: c, D: d} }

// somePoint returns a point with coordinates from -limit to limit, often with a coordinate at a limit or 0.
func somePoint(r *rand.Rand, limit int64) api.GrPoint {
	one := func() int64 {
		switch r.Intn(8) {
		case 0:
			return limit
		case 1:
			return -limit
		case 2:
			return 0
		}
		return r.Int63n(2*limit+1) - limit
	}
	return pt(one(), one())
}

// someLattice returns a valid lattice with numbers up to a limit.
func someLattice(r *rand.Rand, limit int64) api.GrLattice {
	for {
		l := lat(1+r.Int63n(limit), r.Int63n(2*limit+1)-limit, 1+r.Int63n(limit))
		if r.Intn(4) == 0 {
			l.A = limit
		}
		if r.Intn(4) == 0 {
			l.C = limit
		}
		if l.A*l.C-l.B*l.B >= 1 {
			return l
		}
	}
}

// smallLattices returns all valid lattices with A and C up to a limit.
func smallLattices(limit int64) []api.GrLattice {
	var all []api.GrLattice
	for a := int64(1); a <= limit; a++ {
		for c := int64(1); c <= limit; c++ {
			for b := -limit; b <= limit; b++ {
				if a*c-b*b >= 1 {
					all = append(all, lat(a, b, c))
				}
			}
		}
	}
	return all
}

// productOf returns the product of two steps, by the definition, in numbers of any size.
func productOf(l api.GrLattice, s, t api.GrPoint) *big.Int {
	mul := func(numbers ...int64) *big.Int {
		n := big.NewInt(1)
		for _, k := range numbers {
			n.Mul(n, big.NewInt(k))
		}
		return n
	}
	sum := mul(l.A, s.X, t.X)
	sum.Add(sum, mul(l.B, s.X, t.Y))
	sum.Add(sum, mul(l.B, s.Y, t.X))
	return sum.Add(sum, mul(l.C, s.Y, t.Y))
}

func less(p, q api.GrPoint) api.GrPoint { return pt(p.X-q.X, p.Y-q.Y) }

// P6.1: Check, at the limits and beyond them.
func TestCheck(t *testing.T) {
	for _, c := range []struct {
		l    api.GrLattice
		want api.Errno
	}{
		{lat(1, 0, 1), api.OK},
		{lat(2, 1, 2), api.OK},
		{lat(5, 7, 10), api.OK},
		{lat(5, -7, 10), api.OK},
		{lat(1, 0, 10000), api.OK},
		{lat(10000, 0, 1), api.OK},
		{lat(10000, 0, 10000), api.OK},
		{lat(10000, 9999, 10000), api.OK},
		{lat(10000, -9999, 10000), api.OK},
		{lat(9999, 9999, 10000), api.OK},
		{lat(9998, 9999, 10000), api.ErrArg}, // the determinant is -1
		{lat(1, 1, 2), api.OK},
		{lat(1, 1, 1), api.ErrArg},
		{lat(1, -1, 1), api.ErrArg},
		{lat(1, 2, 1), api.ErrArg},
		{lat(5, 7, 9), api.ErrArg},
		{lat(10000, 10000, 10000), api.ErrArg},
		{lat(10000, -10000, 10000), api.ErrArg},
		{lat(0, 0, 1), api.ErrArg},
		{lat(1, 0, 0), api.ErrArg},
		{lat(0, 0, 0), api.ErrArg},
		{lat(-1, 0, -1), api.ErrArg},
		{lat(-2, 1, -2), api.ErrArg},
		{lat(10001, 0, 1), api.ErrArg},
		{lat(1, 0, 10001), api.ErrArg},
		{lat(10001, 0, 10001), api.ErrArg},
		{lat(10000, 10001, 10000), api.ErrArg},
		{lat(10000, -10001, 10000), api.ErrArg},
		{lat(10001, 10000, 10001), api.ErrArg},
		{lat(10000, 1<<32, 10000), api.ErrArg},
		{lat(1, math.MinInt64, 1), api.ErrArg},
		{lat(math.MaxInt64, 0, 1), api.ErrArg},
		{lat(1, 0, math.MaxInt64), api.ErrArg},
		{lat(math.MinInt64, 0, math.MinInt64), api.ErrArg},
		{lat(-math.MaxInt64, 0, 1), api.ErrArg},
	} {
		if e := grids.Check(c.l); e != c.want {
			t.Errorf("Check of %v: %d, want %d", c.l, e, c.want)
		}
	}
}

// P6.1: Check of all small lattices, against the definition.
func TestCheckOfSmallLattices(t *testing.T) {
	for a := int64(-2); a <= 6; a++ {
		for b := int64(-7); b <= 7; b++ {
			for c := int64(-2); c <= 6; c++ {
				want := api.ErrArg
				if a >= 1 && c >= 1 && a*c > b*b {
					want = api.OK
				}
				if e := grids.Check(lat(a, b, c)); e != want {
					t.Errorf("Check of %v: %d, want %d", lat(a, b, c), e, want)
				}
			}
		}
	}
}

// P6.1 and the chapter's examples: Square.
func TestSquare(t *testing.T) {
	for _, c := range []struct {
		l    api.GrLattice
		p, q api.GrPoint
		want int64
	}{
		{lat(2, 1, 2), pt(0, 0), pt(1, 1), 6},
		{lat(2, 1, 2), pt(0, 0), pt(1, -1), 2},
		{lat(2, 1, 2), pt(5, 5), pt(5, 5), 0},
		{lat(2, 1, 2), pt(7, -3), pt(8, -2), 6},
		{lat(2, 1, 2), pt(8, -2), pt(7, -3), 6},
		{lat(1, 0, 1), pt(-1, 2), pt(2, -2), 25},
		{lat(1, 0, 4), pt(0, 0), pt(1, 0), 1},
		{lat(1, 0, 4), pt(0, 0), pt(0, 1), 4},
		{lat(3, -1, 5), pt(0, 0), pt(2, 3), 45},
		{lat(10000, 9999, 10000), pt(-1000000, -1000000), pt(1000000, 1000000), 159992000000000000},
		{lat(10000, -9999, 10000), pt(1000000, -1000000), pt(-1000000, 1000000), 159992000000000000},
		{lat(10000, 9999, 10000), pt(1000000, -1000000), pt(-1000000, 1000000), 8000000000000},
	} {
		if n, e := grids.Square(c.l, c.p, c.q); n != c.want || e != api.OK {
			t.Errorf("Square of %v, %v in %v: %d, %d, want %d", c.p, c.q, c.l, n, e, c.want)
		}
	}
}

// P6.1 and the chapter's example: Dot.
func TestDot(t *testing.T) {
	for _, c := range []struct {
		l       api.GrLattice
		o, p, q api.GrPoint
		want    int64
	}{
		{lat(2, 1, 2), pt(0, 0), pt(1, 0), pt(0, 1), 1},
		{lat(2, 1, 2), pt(0, 0), pt(0, 1), pt(1, 0), 1},
		{lat(2, 1, 2), pt(4, 9), pt(5, 9), pt(4, 10), 1},
		{lat(2, 1, 2), pt(4, 9), pt(4, 9), pt(4, 10), 0},
		{lat(1, 0, 1), pt(0, 0), pt(3, 4), pt(-4, 3), 0},
		{lat(3, -1, 5), pt(0, 0), pt(2, 3), pt(-1, 4), 49},
		{lat(3, -1, 5), pt(1, 0), pt(3, 3), pt(0, 4), 49},
		{lat(10000, 9999, 10000), pt(-1000000, -1000000), pt(1000000, 1000000), pt(1000000, 1000000), 159992000000000000},
	} {
		if n, e := grids.Dot(c.l, c.o, c.p, c.q); n != c.want || e != api.OK {
			t.Errorf("Dot of %v, %v, %v in %v: %d, %d, want %d", c.o, c.p, c.q, c.l, n, e, c.want)
		}
	}
}

// P6.1: Square and Dot, against the definition.
func TestMeasuresOfPoints(t *testing.T) {
	r := rand.New(rand.NewSource(1))
	for range 5000 {
		l := someLattice(r, api.MaxGram)
		o, p, q := somePoint(r, api.MaxCoord), somePoint(r, api.MaxCoord), somePoint(r, api.MaxCoord)
		if n, e := grids.Dot(l, o, p, q); productOf(l, less(p, o), less(q, o)).Cmp(big.NewInt(n)) != 0 || e != api.OK {
			t.Fatalf("Dot of %v, %v, %v in %v: %d, %d", o, p, q, l, n, e)
		}
		if n, e := grids.Square(l, p, q); productOf(l, less(q, p), less(q, p)).Cmp(big.NewInt(n)) != 0 || e != api.OK {
			t.Fatalf("Square of %v, %v in %v: %d, %d", p, q, l, n, e)
		}
	}
}
