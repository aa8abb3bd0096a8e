package grids_test

import (
	"math"
	"math/big"
	"math/rand"
	"slices"
	"testing"

	"torchon/api"
	"torchon/grids"
)

// acrossOf returns the determinant of two steps, by the definition, in numbers of any size.
func acrossOf(s, t api.GrPoint) *big.Int {
	a := new(big.Int).Mul(big.NewInt(s.X), big.NewInt(t.Y))
	b := new(big.Int).Mul(big.NewInt(t.X), big.NewInt(s.Y))
	return a.Sub(a, b)
}

// P6.2 and the chapter's example: Side.
func TestSide(t *testing.T) {
	const far = api.MaxCoord
	for _, c := range []struct {
		p, q, r api.GrPoint
		want    int
	}{
		{pt(0, 0), pt(1, 0), pt(0, 1), 1},
		{pt(0, 0), pt(1, 0), pt(0, -1), -1},
		{pt(0, 0), pt(1, 0), pt(5, 0), 0},
		{pt(0, 0), pt(1, 0), pt(-5, 0), 0},
		{pt(0, 0), pt(1, 1), pt(3, 3), 0},
		{pt(0, 0), pt(0, 0), pt(3, 4), 0},
		{pt(1, 2), pt(3, 4), pt(1, 2), 0},
		{pt(7, 5), pt(8, 5), pt(7, 6), 1},
		{pt(7, 5), pt(7, 6), pt(8, 5), -1},
		{pt(-far, -far), pt(far, far-1), pt(far, far), 1},
		{pt(-far, -far), pt(far, far), pt(far, far-1), -1},
		{pt(-far, -far), pt(far, far-1), pt(far-1, far-2), -1},
		{pt(-far, far), pt(far, -far), pt(far, far), 1},
		{pt(-far, far), pt(far, -far), pt(-far, -far), -1},
		{pt(-far, far), pt(far, -far), pt(0, 0), 0},
	} {
		if n, e := grids.Side(c.p, c.q, c.r); n != c.want || e != api.OK {
			t.Errorf("Side of %v, %v, %v: %d, %d, want %d", c.p, c.q, c.r, n, e, c.want)
		}
	}
}

// P6.2: Side, against the definition.
func TestSideOfPoints(t *testing.T) {
	r := rand.New(rand.NewSource(2))
	for i := range 5000 {
		limit := []int64{2, api.MaxCoord}[i%2]
		p, q, s := somePoint(r, limit), somePoint(r, limit), somePoint(r, limit)
		if n, e := grids.Side(p, q, s); n != acrossOf(less(q, p), less(s, p)).Sign() || e != api.OK {
			t.Fatalf("Side of %v, %v, %v: %d, %d", p, q, s, n, e)
		}
	}
}

// P6.2 and the chapter's examples: Turn.
func TestTurn(t *testing.T) {
	const far = api.MaxCoord
	for _, c := range []struct {
		o, from, p, q api.GrPoint
		want          int
	}{
		{pt(0, 0), pt(1, 0), pt(0, 1), pt(-1, 0), -1},
		{pt(0, 0), pt(1, 0), pt(1, -1), pt(0, 1), 1},
		{pt(0, 0), pt(1, 0), pt(2, 0), pt(1, 0), 0},
		// The direction to from is met first, and its opposite lies between both halves.
		{pt(0, 0), pt(1, 0), pt(3, 0), pt(1, -1), -1},
		{pt(0, 0), pt(1, 0), pt(1, 1), pt(3, 0), 1},
		{pt(0, 0), pt(1, 0), pt(3, 0), pt(-1, 0), -1},
		{pt(0, 0), pt(1, 0), pt(-1, 0), pt(3, 0), 1},
		{pt(0, 0), pt(1, 0), pt(-1, 0), pt(-1, -1), -1},
		{pt(0, 0), pt(1, 0), pt(-1, 0), pt(-1, 1), 1},
		{pt(0, 0), pt(1, 0), pt(-1, 0), pt(-7, 0), 0},
		{pt(0, 0), pt(1, 0), pt(-1, 1), pt(-2, 2), 0},
		{pt(0, 0), pt(1, 0), pt(1, -1), pt(2, -2), 0},
		{pt(0, 0), pt(1, 0), pt(2, 1), pt(1, 2), -1},
		{pt(0, 0), pt(1, 0), pt(2, -1), pt(1, -2), 1},
		{pt(0, 0), pt(0, 1), pt(1, 0), pt(-1, 0), 1},
		{pt(0, 0), pt(-1, -1), pt(1, 0), pt(0, 1), -1},
		{pt(5, -2), pt(6, -2), pt(5, -1), pt(4, -2), -1},
		{pt(5, -2), pt(6, -2), pt(6, -3), pt(5, -1), 1},
		// Directions that are as near to each other as may be.
		{pt(-far, -far), pt(far, -far), pt(far, far-1), pt(far, far), -1},
		{pt(-far, -far), pt(far, far), pt(far, far-1), pt(far-1, far), 1},
		{pt(-far, -far), pt(far, -far), pt(far, far-1), pt(far-1, far-2), 1},
		{pt(-far, -far), pt(far, -far), pt(far-1, far-2), pt(far, far-1), -1},
		{pt(-far, -far), pt(far, -far), pt(far, far), pt(0, 0), 0},
	} {
		if n, e := grids.Turn(c.o, c.from, c.p, c.q); n != c.want || e != api.OK {
			t.Errorf("Turn around %v from %v of %v, %v: %d, %d, want %d", c.o, c.from, c.p, c.q, n, e, c.want)
		}
	}
}

// P6.2: Turn has no direction to a point that is equal to o.
func TestTurnWithoutDirection(t *testing.T) {
	for _, o := range []api.GrPoint{pt(0, 0), pt(3, -4), pt(api.MaxCoord, api.MaxCoord)} {
		other := pt(o.X-1, o.Y)
		for _, l := range [][3]api.GrPoint{{o, other, other}, {other, o, other}, {other, other, o}, {o, o, other}, {o, other, o}, {other, o, o}, {o, o, o}} {
			if n, e := grids.Turn(o, l[0], l[1], l[2]); n != 0 || e != api.ErrArg {
				t.Errorf("Turn around %v of %v: %d, %d", o, l, n, e)
			}
		}
		if n, e := grids.Turn(o, other, other, other); n != 0 || e != api.OK {
			t.Errorf("Turn around %v of %v thrice: %d, %d", o, other, n, e)
		}
	}
}

// fullTurn returns the points of a small square but for its middle, grouped by their directions, in the order in which these are met with the determinant counting as positive.
func fullTurn(limit int64) [][]api.GrPoint {
	groups := map[api.GrPoint][]api.GrPoint{}
	for x := -limit; x <= limit; x++ {
		for y := -limit; y <= limit; y++ {
			if n := new(big.Int).GCD(nil, nil, big.NewInt(max(x, -x)), big.NewInt(max(y, -y))).Int64(); n > 0 {
				groups[pt(x/n, y/n)] = append(groups[pt(x/n, y/n)], pt(x, y))
			}
		}
	}
	var all [][]api.GrPoint
	for _, group := range groups {
		all = append(all, group)
	}
	angle := func(g []api.GrPoint) float64 { return math.Atan2(float64(g[0].Y), float64(g[0].X)) }
	slices.SortFunc(all, func(a, b []api.GrPoint) int {
		if angle(a) < angle(b) {
			return -1
		}
		return 1
	})
	return all
}

// P6.2 and P6.9: Turn orders all directions as they are met in a full turn: each triple of small steps.
func TestFullTurn(t *testing.T) {
	o := pt(-17, 40)
	all := fullTurn(3)
	many := len(all)
	at := func(p api.GrPoint) api.GrPoint { return pt(o.X+p.X, o.Y+p.Y) }
	for start := range all {
		for i := range all {
			for k := range all {
				want := 0
				if i < k {
					want = -1
				} else if i > k {
					want = 1
				}
				for _, from := range all[start] {
					for _, p := range all[(start+i)%many] {
						for _, q := range all[(start+k)%many] {
							if n, e := grids.Turn(o, at(from), at(p), at(q)); n != want || e != api.OK {
								t.Fatalf("Turn from %v of %v, %v: %d, %d, want %d", from, p, q, n, e, want)
							}
						}
					}
				}
			}
		}
	}
}

// P6.9: Turn is an order of directions also of points that are far away: sorted with it, the determinant of neighbours is positive, but where half a turn or more is between them.
func TestTurnIsAnOrder(t *testing.T) {
	r := rand.New(rand.NewSource(3))
	for range 100 {
		o, from := somePoint(r, api.MaxCoord), somePoint(r, api.MaxCoord)
		var points []api.GrPoint
		for range 30 {
			if p := somePoint(r, api.MaxCoord); p != o && from != o {
				points = append(points, p)
			}
		}
		turn := func(p, q api.GrPoint) int {
			n, e := grids.Turn(o, from, p, q)
			if back, f := grids.Turn(o, from, q, p); back != -n || e != api.OK || f != api.OK {
				t.Fatalf("Turn around %v from %v of %v, %v: %d, %d; the other way %d, %d", o, from, p, q, n, e, back, f)
			}
			return n
		}
		slices.SortFunc(points, turn)
		wide := 0
		for i, p := range points {
			for _, q := range points[i:] {
				if turn(p, q) > 0 {
					t.Fatalf("Turn around %v from %v of %v, %v: 1, but sorted", o, from, p, q)
				}
			}
			if i > 0 && acrossOf(less(points[i-1], o), less(p, o)).Sign() < 0 {
				wide++
			}
		}
		if wide > 1 {
			t.Fatalf("around %v from %v: %v", o, from, points)
		}
	}
}
