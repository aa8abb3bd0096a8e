package grounds

import (
	"iter"
	"slices"

	"torchon/api"
	"torchon/stitches"
)

// A plan is a valid ground; its nodes are found by their points, and the steps that lead to them by their indices, that of the left edge first.
type plan struct {
	ground api.GdGround
	nodes  map[api.GrPoint]int
	into   [][2]api.GdStep
}

// planOf returns the plan of a ground, or what is wrong with the ground.
func planOf(g api.GdGround) (plan, api.Errno) {
	if e := checkParts(g); e != api.OK {
		return plan{}, e
	}
	p := plan{ground: g, nodes: map[api.GrPoint]int{}}
	for i, n := range g.Nodes {
		p.nodes[point(n.X, n.Y)] = i
	}
	if len(p.nodes) < len(g.Nodes) {
		return plan{}, api.ErrTwice
	}
	steps, found := p.steps()
	if !found {
		return plan{}, api.ErrNone
	}
	into, paired := twos(steps)
	if !paired || !p.leftFirst() || p.crossed() {
		return plan{}, api.ErrForm
	}
	p.into = into
	return p, api.OK
}

// checkParts reports what is wrong with the numbers and words of a ground.
func checkParts(g api.GdGround) api.Errno {
	switch {
	case len(g.Nodes) > api.MaxGdNodes:
		return api.ErrLong
	case len(g.Nodes) == 0:
		return api.ErrArg
	case !validNumbers(g):
		return api.ErrRange
	}
	for _, n := range g.Nodes {
		if e := stitches.Check(n.Word); e != api.OK {
			return e
		}
	}
	return api.OK
}

func point(x, y int) api.GrPoint {
	return api.GrPoint{X: int64(x), Y: int64(y)}
}

// node returns the index of the node of the unit that is moved to a point, and whether there is one.
func (p plan) node(q api.GrPoint) (int, bool) {
	y := mod(q.Y, int64(p.ground.H))
	units := (q.Y - y) / int64(p.ground.H)
	i, found := p.nodes[api.GrPoint{X: mod(q.X-units*int64(p.ground.Shift), int64(p.ground.W)), Y: y}]
	return i, found
}

// mod returns the remainder of a division that rounds down.
func mod(a, b int64) int64 {
	return (a%b + b) % b
}

// edges yields the edges that leave the nodes of the unit.
func (p plan) edges() iter.Seq[edge] {
	return func(yield func(edge) bool) {
		for _, n := range p.ground.Nodes {
			for _, s := range n.Out {
				if !yield(edge{point(n.X, n.Y), s}) {
					return
				}
			}
		}
	}
}

// steps returns the steps that lead to each node, or false if one leads to no node.
func (p plan) steps() ([][]api.GdStep, bool) {
	steps := make([][]api.GdStep, len(p.ground.Nodes))
	for e := range p.edges() {
		i, found := p.node(e.to())
		if !found {
			return nil, false
		}
		steps[i] = append(steps[i], e.step)
	}
	return steps, true
}

// twos returns the two steps that lead to each node, that of the left edge first, or false if there are more or fewer.
func twos(steps [][]api.GdStep) ([][2]api.GdStep, bool) {
	var into [][2]api.GdStep
	for _, l := range steps {
		if len(l) != 2 {
			return nil, false
		}
		slices.SortFunc(l, func(s, t api.GdStep) int { return slant(t, s) })
		into = append(into, [2]api.GdStep(l))
	}
	return into, true
}

// leftFirst returns whether the first step of each node is the left one.
func (p plan) leftFirst() bool {
	return !slices.ContainsFunc(p.ground.Nodes, func(n api.GdNode) bool { return slant(n.Out[0], n.Out[1]) >= 0 })
}

// crossed returns whether there are edges with a point in common that is not an end of both of them.
func (p plan) crossed() bool {
	for e := range p.edges() {
		for f := range p.near(e) {
			if e.crosses(f) {
				return true
			}
		}
	}
	return false
}

// near yields all edges that begin beside an edge, in its rows above its end, and may meet it. Of two edges that cross, one begins beside the other one.
func (p plan) near(e edge) iter.Seq[edge] {
	return func(yield func(edge) bool) {
		least, most := min(e.from.X, e.to().X)-api.MaxGdStep, max(e.from.X, e.to().X)+api.MaxGdStep
		for y := e.from.Y; y < e.to().Y; y++ {
			for x := least; x <= most; x++ {
				q := api.GrPoint{X: x, Y: y}
				i, found := p.node(q)
				if found && !(yield(edge{q, p.ground.Nodes[i].Out[0]}) && yield(edge{q, p.ground.Nodes[i].Out[1]})) {
					return
				}
			}
		}
	}
}

// coming returns the edges that come to a node of the ground.
func (p plan) coming(q api.GrPoint) [2]edge {
	i, _ := p.node(q)
	return [2]edge{edgeTo(q, p.into[i][0]), edgeTo(q, p.into[i][1])}
}

// leaving returns the edges that leave a node of the ground.
func (p plan) leaving(q api.GrPoint) [2]edge {
	i, _ := p.node(q)
	out := p.ground.Nodes[i].Out
	return [2]edge{{q, out[0]}, {q, out[1]}}
}
