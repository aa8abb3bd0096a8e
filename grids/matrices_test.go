package grids_test

import (
	"math/big"
	"math/rand"
	"testing"

	"torchon/api"
	"torchon/grids"
)

// image returns the image of a step.
func image(m api.GrMatrix, s api.GrPoint) api.GrPoint {
	return pt(m.A*s.X+m.B*s.Y, m.C*s.X+m.D*s.Y)
}

// after returns the matrix that first applies n and then m.
func after(m, n api.GrMatrix) api.GrMatrix {
	first, second := image(m, pt(n.A, n.C)), image(m, pt(n.B, n.D))
	return mat(first.X, second.X, first.Y, second.Y)
}

func determinant(m api.GrMatrix) int64 { return m.A*m.D - m.B*m.C }

// undoing returns the inverse of a matrix with the determinant 1 or -1.
func undoing(m api.GrMatrix) api.GrMatrix {
	d := determinant(m)
	return mat(d*m.D, -d*m.B, -d*m.C, d*m.A)
}

// leads reports whether a matrix leads from one lattice to another one, by the definition.
func leads(m api.GrMatrix, from, to api.GrLattice) bool {
	if d := determinant(m); d != 1 && d != -1 {
		return false
	}
	steps := []api.GrPoint{pt(1, 0), pt(0, 1), pt(1, 1), pt(-2, 3)}
	for _, s := range steps {
		for _, t := range steps {
			if productOf(to, s, t).Cmp(productOf(from, image(m, s), image(m, t))) != 0 {
				return false
			}
		}
	}
	return true
}

// matrices returns all matrices with numbers from -limit to limit, in order.
func matrices(limit int64) []api.GrMatrix {
	var all []api.GrMatrix
	for a := -limit; a <= limit; a++ {
		for b := -limit; b <= limit; b++ {
			for c := -limit; c <= limit; c++ {
				for d := -limit; d <= limit; d++ {
					all = append(all, mat(a, b, c, d))
				}
			}
		}
	}
	return all
}

// someTurn returns a matrix with the determinant 1 or -1, and numbers up to a limit.
func someTurn(r *rand.Rand, limit int64) api.GrMatrix {
	m := mat(1, 0, 0, 1)
	for range r.Intn(30) {
		n := []api.GrMatrix{mat(1, 1, 0, 1), mat(1, 0, 1, 1), mat(1, -1, 0, 1), mat(1, 0, -1, 1), mat(0, 1, 1, 0), mat(-1, 0, 0, 1)}[r.Intn(6)]
		if n = after(n, m); max(n.A, -n.A, n.B, -n.B, n.C, -n.C, n.D, -n.D) <= limit {
			m = n
		}
	}
	return m
}

// P6.3: Keeps.
func TestKeeps(t *testing.T) {
	const most = api.MaxGram
	for _, c := range []struct {
		l    api.GrLattice
		m    api.GrMatrix
		want bool
	}{
		{lat(1, 0, 1), mat(1, 0, 0, 1), true},
		{lat(1, 0, 1), mat(-1, 0, 0, -1), true},
		{lat(1, 0, 1), mat(0, 1, 1, 0), true},
		{lat(1, 0, 1), mat(0, -1, 1, 0), true},
		{lat(1, 0, 1), mat(1, 1, 0, 1), false},
		{lat(1, 0, 1), mat(0, 0, 0, 0), false},
		{lat(1, 0, 1), mat(1, 1, 0, 0), false}, // each step of the axes keeps its length
		{lat(1, 0, 1), mat(1, 0, 0, 2), false},
		{lat(1, 0, 1), mat(2, 0, 0, 1), false},
		{lat(1, 0, 4), mat(0, 1, 1, 0), false},
		{lat(1, 0, 4), mat(0, -2, 1, 0), false},
		{lat(1, 0, 4), mat(1, 0, 0, -1), true},
		{lat(2, 1, 2), mat(1, -1, 1, 0), false},
		{lat(2, 1, 2), mat(0, -1, 1, 1), true},
		{lat(2, -1, 2), mat(1, -1, 1, 0), true},
		{lat(3, 1, 5), mat(1, 0, 0, -1), false},
		{lat(2, 1, 3), mat(1, 1, 0, -1), true},
		{lat(2, 1, 3), mat(1, -1, 0, -1), false},
		{lat(10000, 9999, 10000), mat(0, 1, 1, 0), true},
		{lat(10000, 9999, 10000), mat(most, most, most, most), false},
		{lat(10000, -9999, 10000), mat(-most, most, most, -most), false},
		{lat(10000, 0, 10000), mat(most, 0, 0, most), false},
		{lat(1, 0, 1), mat(most, -most, most, -most), false},
	} {
		if is, e := grids.Keeps(c.l, c.m); is != c.want || e != api.OK {
			t.Errorf("Keeps of %v, %v: %v, %d, want %v", c.l, c.m, is, e, c.want)
		}
	}
}

// P6.3: Keeps, against the definition.
func TestKeepsOfMatrices(t *testing.T) {
	for _, l := range smallLattices(3) {
		for _, m := range matrices(2) {
			if is, e := grids.Keeps(l, m); is != leads(m, l, l) || e != api.OK {
				t.Fatalf("Keeps of %v, %v: %v, %d", l, m, is, e)
			}
		}
	}
}

// orderOf returns the order of a matrix, by the definition, in numbers of any size.
func orderOf(m api.GrMatrix) int {
	apply := func(p [2]*big.Int) [2]*big.Int {
		row := func(a, b int64) *big.Int {
			x, y := new(big.Int).Mul(big.NewInt(a), p[0]), new(big.Int).Mul(big.NewInt(b), p[1])
			return x.Add(x, y)
		}
		return [2]*big.Int{row(m.A, m.B), row(m.C, m.D)}
	}
	is := func(p [2]*big.Int, x, y int64) bool {
		return p[0].Cmp(big.NewInt(x)) == 0 && p[1].Cmp(big.NewInt(y)) == 0
	}
	first, second := [2]*big.Int{big.NewInt(1), big.NewInt(0)}, [2]*big.Int{big.NewInt(0), big.NewInt(1)}
	for k := 1; k <= 12; k++ {
		first, second = apply(first), apply(second)
		if is(first, 1, 0) && is(second, 0, 1) {
			return k
		}
	}
	return 0
}

// P6.5 and the chapter's examples: Order.
func TestOrder(t *testing.T) {
	for _, c := range []struct {
		m    api.GrMatrix
		want int
	}{
		{mat(0, -1, 1, 0), 4},
		{mat(1, -1, 1, 0), 6},
		{mat(0, 1, 1, 0), 2},
		{mat(1, 1, 0, 1), 0},
		{mat(1, 0, 0, 1), 1},
		{mat(-1, 0, 0, -1), 2},
		{mat(1, 0, 0, -1), 2},
		{mat(1, 1, 0, -1), 2},
		{mat(1, 10000, 0, -1), 2},
		{mat(-1, 0, 10000, 1), 2},
		{mat(1, 10000, 0, 1), 0},
		{mat(-1, 1, 0, -1), 0},
		{mat(-1, 10000, 0, -1), 0},
		{mat(0, -1, 1, -1), 3},
		{mat(0, -1, 1, 1), 6},
		{mat(0, 0, 0, 0), 0},
		{mat(1, 0, 0, 0), 0},
		{mat(2, 1, 1, 1), 0},
		{mat(2, 0, 0, 2), 0},
		{mat(10000, 10000, 10000, 10000), 0},
		{mat(-10000, 10000, -10000, -10000), 0},
		{mat(8192, 8192, 8192, 8192), 0},
		{mat(10000, -9999, 10000, -9999), 0},
		{mat(5000, -4999, 5001, -5000), 2},
		{mat(100, -101, 100, -100), 0},
		{mat(70, -4901, 1, -70), 4},
		{mat(99, -9802, 1, -99), 4},
		{mat(-99, -9802, 1, 99), 4},
		{mat(99, -9703, 1, -98), 6},
		{mat(98, -9703, 1, -99), 3},
	} {
		if n, e := grids.Order(c.m); n != c.want || e != api.OK {
			t.Errorf("Order of %v: %d, %d, want %d", c.m, n, e, c.want)
		}
	}
}

// P6.5: Order, against the definition: of all small matrices, of any ones, and of those that are seen from other steps.
func TestOrderOfMatrices(t *testing.T) {
	check := func(m api.GrMatrix) {
		t.Helper()
		if n, e := grids.Order(m); n != orderOf(m) || e != api.OK {
			t.Fatalf("Order of %v: %d, %d, want %d", m, n, e, orderOf(m))
		}
	}
	small := matrices(3)
	var have [7]int
	for _, m := range small {
		check(m)
		have[orderOf(m)]++
	}
	if have != [7]int{have[0], 1, have[2], have[3], have[4], 0, have[6]} {
		t.Fatalf("orders of small matrices: %v", have)
	}
	r := rand.New(rand.NewSource(4))
	for range 2000 {
		p, q := somePoint(r, api.MaxGram), somePoint(r, api.MaxGram)
		check(mat(p.X, q.X, p.Y, q.Y))
		m, n := someTurn(r, 70), small[r.Intn(len(small))]
		if d := determinant(n); d == 1 || d == -1 {
			n = after(after(m, n), undoing(m))
			if max(n.A, -n.A, n.B, -n.B, n.C, -n.C, n.D, -n.D) <= api.MaxGram {
				check(n)
			}
		}
	}
}
