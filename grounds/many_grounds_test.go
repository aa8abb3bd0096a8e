package grounds_test

import (
	"math/rand"
	"testing"

	"torchon/api"
	"torchon/grounds"
)

// P7.2: At for all points of a part of many grounds, against the nodes that are moved one by one.
func TestAtOfManyGrounds(t *testing.T) {
	manyGrounds(8, 20, func(r *rand.Rand, g api.GdGround) {
		x0, y0 := r.Intn(2000000)-1000000, r.Intn(2000000)-1000000
		for _, from := range [][2]int{{-20, -20}, {x0, y0}, {1000000 - 25, -1000000}, {-1000000, 1000000 - 25}} {
			nodes := nodesIn(g, from[0], from[1], from[0]+25, from[1]+25)
			for y := from[1]; y <= from[1]+25; y++ {
				for x := from[0]; x <= from[0]+25; x++ {
					want, found := nodes[[2]int{x, y}]
					wanted := api.OK
					switch {
					case x > 1000000 || y > 1000000:
						want, wanted = 0, api.ErrRange
					case !found:
						wanted = api.ErrNone
					}
					if i, e := grounds.At(g, x, y); i != want || e != wanted {
						t.Fatalf("At of %v, %d, %d: %d, %d, want %d, %d", g, x, y, i, e, want, wanted)
					}
				}
			}
		}
	})
}

// P7.2: Into for all nodes of many grounds: the steps of the edges that come to them.
func TestIntoOfManyGrounds(t *testing.T) {
	manyGrounds(9, 600, func(r *rand.Rand, g api.GdGround) {
		for i, n := range g.Nodes {
			var come []seg
			for _, s := range segsFrom(g, n.X-8, n.Y-8, n.X+8, n.Y-1) {
				if s.end() == [2]int{n.X, n.Y} {
					come = append(come, s)
				}
			}
			into, e := grounds.Into(g, i)
			left := seg{n.X - into[0].DX, n.Y - into[0].DY, n.X, n.Y}
			right := seg{n.X - into[1].DX, n.Y - into[1].DY, n.X, n.Y}
			if e != api.OK || len(come) != 2 || come[0] != left && come[1] != left || come[0] != right && come[1] != right || left.slope() <= right.slope() {
				t.Fatalf("Into of %v, %d: %v, %d, but %v come to it", g, i, into, e, come)
			}
		}
		if into, e := grounds.Into(g, len(g.Nodes)); e != api.ErrArg || into != [2]api.GdStep{} {
			t.Fatalf("Into of %v, %d: %v, %d", g, len(g.Nodes), into, e)
		}
	})
}

// P7.2 and P7.6: Rows of many grounds: how many edges meet each line from 0 on and below W; the numbers are the same.
func TestRowsOfManyGrounds(t *testing.T) {
	manyGrounds(10, 600, func(r *rand.Rand, g api.GdGround) {
		rows, e := grounds.Rows(g)
		if e != api.OK || len(rows) != g.H {
			t.Fatalf("Rows of %v: %v, %d", g, rows, e)
		}
		all := segsFrom(g, -9, -9, g.W+9, g.H)
		for y, many := range rows {
			met := 0
			for _, s := range all {
				// Twice the line's y, to compare whole numbers; the point at which the edge meets the line, times twice its height.
				at := 2*s.x*(s.v-s.y) + (2*y+1-2*s.y)*(s.u-s.x)
				if s.y <= y && y < s.v && 0 <= at && at < 2*g.W*(s.v-s.y) {
					met++
				}
			}
			if many != met || many != rows[0] {
				t.Fatalf("Rows of %v: %v, but %d edges meet the line below the row %d", g, rows, met, y)
			}
		}
	})
}
