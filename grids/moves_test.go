package grids_test

import (
	"math/rand"
	"testing"

	"torchon/api"
	"torchon/grids"
)

func move(m api.GrMatrix, t api.GrPoint) api.GrMove { return api.GrMove{M: m, T: t} }

// moved returns the image of a point, which may be far away.
func moved(m api.GrMove, p api.GrPoint) api.GrPoint {
	i := image(m.M, p)
	return pt(i.X+m.T.X, i.Y+m.T.Y)
}

func validMove(m api.GrMove) bool {
	return validMatrix(m.M) && validPoint(m.T)
}

func validMatrix(m api.GrMatrix) bool {
	return max(m.A, m.B, m.C, m.D) <= 10000 && min(m.A, m.B, m.C, m.D) >= -10000
}

func validPoint(p api.GrPoint) bool {
	return max(p.X, p.Y) <= 1000000 && min(p.X, p.Y) >= -1000000
}

// someMove returns a valid move, often one with an inverse.
func someMove(r *rand.Rand) api.GrMove {
	limits := []int64{2, 100, api.MaxGram}
	p, q := somePoint(r, limits[r.Intn(3)]), somePoint(r, limits[r.Intn(3)])
	m := move(mat(p.X, q.X, p.Y, q.Y), somePoint(r, []int64{100, 10000, api.MaxCoord}[r.Intn(3)]))
	if r.Intn(2) == 0 {
		m.M = someTurn(r, limits[r.Intn(3)])
	}
	return m
}

// P6.4 and the chapter's example: Apply, with images at the limits and beyond them.
func TestApply(t *testing.T) {
	quarter := move(mat(0, -1, 1, 0), pt(3, 4))
	const far = api.MaxCoord
	for _, c := range []struct {
		m       api.GrMove
		p, want api.GrPoint
		e       api.Errno
	}{
		{quarter, pt(1, 2), pt(1, 5), api.OK},
		{quarter, pt(0, 0), pt(3, 4), api.OK},
		{quarter, pt(0, -999997), pt(far, 4), api.OK},
		{quarter, pt(0, -999998), pt(0, 0), api.ErrRange},
		{quarter, pt(999996, 0), pt(3, far), api.OK},
		{quarter, pt(999997, 0), pt(0, 0), api.ErrRange},
		{move(mat(1, 0, 0, 1), pt(-3, -4)), pt(-999997, -999996), pt(-far, -far), api.OK},
		{move(mat(1, 0, 0, 1), pt(-3, -4)), pt(-999998, -999996), pt(0, 0), api.ErrRange},
		{move(mat(1, 0, 0, 1), pt(-3, -4)), pt(-999997, -999997), pt(0, 0), api.ErrRange},
		{move(mat(2, 3, 5, 7), pt(11, 13)), pt(17, -19), pt(-12, -35), api.OK},
		{move(mat(0, 0, 0, 0), pt(far, -far)), pt(far, far), pt(far, -far), api.OK},
		{move(mat(2, 0, 0, 2), pt(0, 0)), pt(600000, 0), pt(0, 0), api.ErrRange},
		{move(mat(2, 0, 0, 2), pt(-far, 0)), pt(far, 0), pt(far, 0), api.OK},
		{move(mat(10000, 10000, 10000, 10000), pt(far, far)), pt(far, far), pt(0, 0), api.ErrRange},
		{move(mat(10000, 10000, -10000, -10000), pt(far, -far)), pt(far, -far), pt(far, -far), api.OK},
		{move(mat(-10000, -10000, -10000, -10000), pt(-far, -far)), pt(far, far), pt(0, 0), api.ErrRange},
		// Images that would be valid if they were kept in 32 bits.
		{move(mat(4295, 0, 0, 1), pt(0, 0)), pt(999994, 0), pt(0, 0), api.ErrRange},
	} {
		if p, e := grids.Apply(c.m, c.p); p != c.want || e != c.e {
			t.Errorf("Apply of %v to %v: %v, %d, want %v, %d", c.m, c.p, p, e, c.want, c.e)
		}
	}
}

// P6.4 and the chapter's example: Compose, with moves at the limits and beyond them, in each of their numbers.
func TestCompose(t *testing.T) {
	still := move(mat(1, 0, 0, 1), pt(0, 0))
	const far = api.MaxCoord
	for _, c := range []struct {
		m, n, want api.GrMove
		e          api.Errno
	}{
		{move(mat(0, -1, 1, 0), pt(3, 4)), move(mat(0, 1, -1, 0), pt(-4, 3)), still, api.OK},
		{move(mat(0, -1, 1, 0), pt(0, 0)), move(mat(1, 0, 0, 1), pt(1, 0)), move(mat(0, -1, 1, 0), pt(0, 1)), api.OK},
		{move(mat(1, 0, 0, 1), pt(1, 0)), move(mat(0, -1, 1, 0), pt(0, 0)), move(mat(0, -1, 1, 0), pt(1, 0)), api.OK},
		{move(mat(1, 2, 3, 4), pt(5, 6)), move(mat(7, 8, 9, 10), pt(11, 12)), move(mat(25, 28, 57, 64), pt(40, 87)), api.OK},
		{move(mat(100, 0, 0, 1), pt(0, 0)), move(mat(100, 0, 0, 1), pt(0, 0)), move(mat(10000, 0, 0, 1), pt(0, 0)), api.OK},
		{move(mat(73, 0, 0, 1), pt(0, 0)), move(mat(-137, 0, 0, 1), pt(0, 0)), api.GrMove{}, api.ErrRange},
		{move(mat(73, 0, 0, 1), pt(0, 0)), move(mat(137, 0, 0, 1), pt(0, 0)), api.GrMove{}, api.ErrRange},
		{move(mat(1, 0, 0, -100), pt(0, 0)), move(mat(1, 0, 0, 100), pt(0, 0)), move(mat(1, 0, 0, -10000), pt(0, 0)), api.OK},
		{move(mat(1, 0, 0, 73), pt(0, 0)), move(mat(1, 0, 0, -137), pt(0, 0)), api.GrMove{}, api.ErrRange},
		{move(mat(1, 1, 0, 1), pt(0, 0)), move(mat(1, 9999, 0, 1), pt(0, 0)), move(mat(1, 10000, 0, 1), pt(0, 0)), api.OK},
		{move(mat(1, 1, 0, 1), pt(0, 0)), move(mat(1, 10000, 0, 1), pt(0, 0)), api.GrMove{}, api.ErrRange},
		{move(mat(1, 0, -1, 1), pt(0, 0)), move(mat(1, 0, -9999, 1), pt(0, 0)), move(mat(1, 0, -10000, 1), pt(0, 0)), api.OK},
		{move(mat(1, 0, -1, 1), pt(0, 0)), move(mat(1, 0, -10000, 1), pt(0, 0)), api.GrMove{}, api.ErrRange},
		{move(mat(1, 0, 0, 1), pt(1, 0)), move(mat(1, 0, 0, 1), pt(far-1, far)), move(mat(1, 0, 0, 1), pt(far, far)), api.OK},
		{move(mat(1, 0, 0, 1), pt(1, 0)), move(mat(1, 0, 0, 1), pt(far, 0)), api.GrMove{}, api.ErrRange},
		{move(mat(1, 0, 0, 1), pt(0, 1)), move(mat(1, 0, 0, 1), pt(0, far)), api.GrMove{}, api.ErrRange},
		{move(mat(1, 0, 0, 1), pt(0, -1)), move(mat(1, 0, 0, 1), pt(0, 1-far)), move(mat(1, 0, 0, 1), pt(0, -far)), api.OK},
		{move(mat(1, 0, 0, 1), pt(0, -1)), move(mat(1, 0, 0, 1), pt(0, -far)), api.GrMove{}, api.ErrRange},
		{move(mat(1, 0, 0, 1), pt(-1, 0)), move(mat(1, 0, 0, 1), pt(-far, 0)), api.GrMove{}, api.ErrRange},
		{move(mat(10000, 10000, 10000, 10000), pt(far, far)), move(mat(10000, 10000, 10000, 10000), pt(far, far)), api.GrMove{}, api.ErrRange},
		{move(mat(10000, -10000, 10000, -10000), pt(far, far)), move(mat(10000, 10000, 10000, 10000), pt(far, far)), move(mat(0, 0, 0, 0), pt(far, far)), api.OK},
	} {
		if m, e := grids.Compose(c.m, c.n); m != c.want || e != c.e {
			t.Errorf("Compose of %v, %v: %v, %d, want %v, %d", c.m, c.n, m, e, c.want, c.e)
		}
	}
}

// P6.4 and the chapter's example: Invert; a matrix without an inverse is met before an inverse that is too far away.
func TestInvert(t *testing.T) {
	const far = api.MaxCoord
	for _, c := range []struct {
		m, want api.GrMove
		e       api.Errno
	}{
		{move(mat(0, -1, 1, 0), pt(3, 4)), move(mat(0, 1, -1, 0), pt(-4, 3)), api.OK},
		{move(mat(1, 0, 0, 1), pt(far, -far)), move(mat(1, 0, 0, 1), pt(-far, far)), api.OK},
		{move(mat(0, 1, 1, 0), pt(5, 7)), move(mat(0, 1, 1, 0), pt(-7, -5)), api.OK},
		{move(mat(2, 3, 1, 2), pt(5, 7)), move(mat(2, -3, -1, 2), pt(11, -9)), api.OK},
		{move(mat(2, 3, 3, 4), pt(5, 7)), move(mat(-4, 3, 3, -2), pt(-1, -1)), api.OK},
		{move(mat(10000, 9999, 1, 1), pt(0, 0)), move(mat(1, -9999, -1, 10000), pt(0, 0)), api.OK},
		{move(mat(9999, -10000, 10000, -10000), pt(0, 0)), api.GrMove{}, api.ErrForm},
		{move(mat(9999, 10000, 9998, 9999), pt(1, 1)), move(mat(9999, -10000, -9998, 9999), pt(1, -1)), api.OK},
		{move(mat(9999, 10000, 9998, 9999), pt(0, 100)), move(mat(9999, -10000, -9998, 9999), pt(far, -999900)), api.OK},
		{move(mat(9999, 10000, 9998, 9999), pt(0, 101)), api.GrMove{}, api.ErrRange},
		{move(mat(9999, 10000, 9998, 9999), pt(0, -101)), api.GrMove{}, api.ErrRange},
		{move(mat(9999, 9998, 10000, 9999), pt(100, 0)), move(mat(9999, -9998, -10000, 9999), pt(-999900, far)), api.OK},
		{move(mat(9999, 9998, 10000, 9999), pt(101, 0)), api.GrMove{}, api.ErrRange},
		{move(mat(9999, 9998, 10000, 9999), pt(-101, 0)), api.GrMove{}, api.ErrRange},
		{move(mat(1, 1, 0, 1), pt(1, far)), move(mat(1, -1, 0, 1), pt(far-1, -far)), api.OK},
		{move(mat(1, 1, 0, 1), pt(0, far)), move(mat(1, -1, 0, 1), pt(far, -far)), api.OK},
		{move(mat(1, 1, 0, 1), pt(-1, far)), api.GrMove{}, api.ErrRange},
		{move(mat(0, 0, 0, 0), pt(0, 0)), api.GrMove{}, api.ErrForm},
		{move(mat(1, 1, 1, 1), pt(0, 0)), api.GrMove{}, api.ErrForm},
		{move(mat(2, 0, 0, 1), pt(0, 0)), api.GrMove{}, api.ErrForm},
		{move(mat(1, 0, 0, -2), pt(0, 0)), api.GrMove{}, api.ErrForm},
		{move(mat(10000, 10000, -10000, 10000), pt(0, 0)), api.GrMove{}, api.ErrForm},
		{move(mat(2, 10000, 0, 1), pt(far, far)), api.GrMove{}, api.ErrForm},
	} {
		if m, e := grids.Invert(c.m); m != c.want || e != c.e {
			t.Errorf("Invert of %v: %v, %d, want %v, %d", c.m, m, e, c.want, c.e)
		}
	}
}

// P6.4: Apply and Compose, against the definitions: a move is determined by the images of three points.
func TestMovesOfPoints(t *testing.T) {
	r := rand.New(rand.NewSource(9))
	for range 20000 {
		m, n, p := someMove(r), someMove(r), somePoint(r, []int64{100, api.MaxCoord}[r.Intn(2)])
		want, e := moved(m, p), api.OK
		if !validPoint(want) {
			want, e = api.GrPoint{}, api.ErrRange
		}
		if got, f := grids.Apply(m, p); got != want || f != e {
			t.Fatalf("Apply of %v to %v: %v, %d, want %v, %d", m, p, got, f, want, e)
		}
		at := func(p api.GrPoint) api.GrPoint { return moved(m, moved(n, p)) }
		o := at(pt(0, 0))
		first, second := less(at(pt(1, 0)), o), less(at(pt(0, 1)), o)
		both, e := move(mat(first.X, second.X, first.Y, second.Y), o), api.OK
		if !validMove(both) {
			both, e = api.GrMove{}, api.ErrRange
		}
		if got, f := grids.Compose(m, n); got != both || f != e {
			t.Fatalf("Compose of %v, %v: %v, %d, want %v, %d", m, n, got, f, both, e)
		}
	}
}

// P6.9: Compose is associative where no error occurs.
func TestComposeIsAssociative(t *testing.T) {
	r := rand.New(rand.NewSource(10))
	met := 0
	for range 20000 {
		a, b, c := someMove(r), someMove(r), someMove(r)
		ab, e := grids.Compose(a, b)
		bc, f := grids.Compose(b, c)
		if e != api.OK || f != api.OK {
			continue
		}
		left, e := grids.Compose(ab, c)
		right, f := grids.Compose(a, bc)
		if e != f || left != right {
			t.Fatalf("Compose of %v, %v, %v: %v, %d and %v, %d", a, b, c, left, e, right, f)
		}
		if e == api.OK {
			met++
		}
	}
	if met < 100 {
		t.Fatalf("only %d moves were composed", met)
	}
}

// P6.4 and P6.9: Invert undoes: the move first and then its inverse, or the reverse, map each point to itself.
func TestInvertUndoes(t *testing.T) {
	r := rand.New(rand.NewSource(11))
	still := move(mat(1, 0, 0, 1), pt(0, 0))
	var met [8]int
	for range 20000 {
		m := someMove(r)
		back, e := grids.Invert(m)
		met[e]++
		if d := determinant(m.M); (d == 1 || d == -1) != (e != api.ErrForm) {
			t.Fatalf("Invert of %v: %v, %d", m, back, e)
		}
		if e == api.ErrRange {
			if p := image(undoing(m.M), m.T); validPoint(p) {
				t.Fatalf("Invert of %v: %d", m, e)
			}
			continue
		}
		if e == api.ErrForm {
			continue
		}
		one, e := grids.Compose(m, back)
		two, f := grids.Compose(back, m)
		if one != still || two != still || e != api.OK || f != api.OK || !validMove(back) {
			t.Fatalf("Invert of %v: %v; composed: %v, %d and %v, %d", m, back, one, e, two, f)
		}
		if again, e := grids.Invert(back); again != m || e != api.OK {
			t.Fatalf("Invert of %v: %v, %d, want %v", back, again, e, m)
		}
	}
	if met[api.OK] < 100 || met[api.ErrForm] < 100 || met[api.ErrRange] < 100 {
		t.Fatalf("results: %v", met)
	}
}
