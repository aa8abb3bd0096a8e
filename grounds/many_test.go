package grounds_test

import (
	"math/rand"
	"slices"

	"torchon/api"
)

// mod returns the remainder of a division that rounds down.
func mod(a, b int) int { return (a%b + b) % b }

var words = []string{"CTC", "CT", "CTCT", "CTPCT", "", "T", "ClR"}

// rowsOf returns a valid ground whose steps all lead to the next one of some rows, each with as many nodes.
func rowsOf(r *rand.Rand) api.GdGround {
	for {
		many, rows := 1+r.Intn(4), 1+r.Intn(5)
		g := api.GdGround{W: many + r.Intn(8)}
		g.Shift = r.Intn(g.W)
		var columns [][]int
		var ys []int
		for range rows {
			row := r.Perm(g.W)[:many]
			slices.Sort(row)
			columns, ys = append(columns, row), append(ys, g.H)
			g.H += 1 + r.Intn(3)
		}
		if join(r, &g, columns, ys) {
			return g
		}
	}
}

// join sets the nodes of rows: each row's edges lead, from left to right, to nodes of the next row, two by two. It returns false if that is too far.
func join(r *rand.Rand, g *api.GdGround, columns [][]int, ys []int) bool {
	many := len(columns[0])
	for row, xs := range columns {
		next, y, shift := (row+1)%len(ys), g.H, g.Shift
		if next > 0 {
			y, shift = ys[next], 0
		}
		column := func(k int) int { return columns[next][mod(k, many)] + (k-mod(k, many))/many*g.W + shift }
		first := r.Intn(5) - 2
		for column(first) > xs[0]+r.Intn(3) {
			first--
		}
		for k, x := range xs {
			left, right := step(column(k+first)-x, y-ys[row]), step(column(k+first+1)-x, y-ys[row])
			if left.DX < -api.MaxGdStep || right.DX > api.MaxGdStep {
				return false
			}
			g.Nodes = append(g.Nodes, node(x, ys[row], words[r.Intn(len(words))], left, right))
		}
	}
	return true
}

// moved returns a ground that begins elsewhere: all its nodes are moved by x, y.
func moved(g api.GdGround, x, y int) api.GdGround {
	g.Nodes = slices.Clone(g.Nodes)
	for i := range g.Nodes {
		n := &g.Nodes[i]
		n.X, n.Y = n.X+x, n.Y+y
		units := (n.Y - mod(n.Y, g.H)) / g.H
		n.X, n.Y = mod(n.X-units*g.Shift, g.W), mod(n.Y, g.H)
	}
	return g
}

// stepsTo yields the steps that lead to a node of the unit: of which node, and which one.
func stepsTo(g api.GdGround, i int) func(yield func(k, side int) bool) {
	return func(yield func(k, side int) bool) {
		for k, n := range g.Nodes {
			for side, s := range n.Out {
				x, y := n.X+s.DX, n.Y+s.DY
				units := (y - mod(y, g.H)) / g.H
				if mod(x-units*g.Shift, g.W) == g.Nodes[i].X && mod(y, g.H) == g.Nodes[i].Y && !yield(k, side) {
					return
				}
			}
		}
	}
}

// nudged returns a ground one node of which is moved a little, with the edges that come to it and leave it.
func nudged(r *rand.Rand, g api.GdGround) api.GdGround {
	h := moved(g, 0, 0)
	i, x, y := r.Intn(len(g.Nodes)), r.Intn(3)-1, r.Intn(3)-1
	for k, side := range stepsTo(g, i) {
		h.Nodes[k].Out[side].DX += x
		h.Nodes[k].Out[side].DY += y
	}
	n := &h.Nodes[i]
	for side := range n.Out {
		n.Out[side].DX -= x
		n.Out[side].DY -= y
	}
	n.X, n.Y = n.X+x, n.Y+y
	return moved(h, 0, 0)
}

// thinned returns a ground without one of its nodes: pairs that come to it by the left edge go on where its left edge leads, and likewise on the right.
func thinned(r *rand.Rand, g api.GdGround) api.GdGround {
	h := moved(g, 0, 0)
	i := r.Intn(len(g.Nodes))
	var come [][2]int
	for k, side := range stepsTo(g, i) {
		come = append(come, [2]int{k, side})
	}
	slices.SortFunc(come, func(a, b [2]int) int {
		s, t := g.Nodes[a[0]].Out[a[1]], g.Nodes[b[0]].Out[b[1]]
		return t.DX*s.DY - s.DX*t.DY
	})
	for side, c := range come {
		if c[0] == i {
			return g
		}
		h.Nodes[c[0]].Out[c[1]].DX += g.Nodes[i].Out[side].DX
		h.Nodes[c[0]].Out[c[1]].DY += g.Nodes[i].Out[side].DY
	}
	h.Nodes = slices.Delete(h.Nodes, i, i+1)
	return h
}

// changed returns a ground with valid numbers that is made of a valid one, and need not be valid.
func changed(r *rand.Rand, g api.GdGround) api.GdGround {
	for {
		h := nudged(r, g)
		if r.Intn(2) == 0 {
			h = thinned(r, g)
		}
		far := slices.ContainsFunc(h.Nodes, func(n api.GdNode) bool {
			return slices.ContainsFunc(n.Out[:], func(s api.GdStep) bool { return s.DX < -8 || s.DX > 8 || s.DY < 1 || s.DY > 8 })
		})
		if !far {
			return h
		}
	}
}

// manyGrounds calls with many valid grounds, most of them without level rows.
func manyGrounds(seed int64, times int, call func(r *rand.Rand, g api.GdGround)) {
	r := rand.New(rand.NewSource(seed))
	for range times {
		g := rowsOf(r)
		for range r.Intn(12) {
			if h := changed(r, g); judge(h) == api.OK {
				g = h
			}
		}
		r.Shuffle(len(g.Nodes), func(i, k int) { g.Nodes[i], g.Nodes[k] = g.Nodes[k], g.Nodes[i] })
		call(r, moved(g, r.Intn(30)-15, r.Intn(30)-15))
	}
}
