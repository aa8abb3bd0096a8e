package grounds

import (
	"slices"

	"torchon/api"
)

func between(least, n, most int) bool {
	return least <= n && n <= most
}

// validNumbers returns whether all numbers of a ground are in their ranges.
func validNumbers(g api.GdGround) bool {
	if !between(1, g.W, api.MaxGdUnit) || !between(1, g.H, api.MaxGdUnit) || !between(0, g.Shift, g.W-1) {
		return false
	}
	return !slices.ContainsFunc(g.Nodes, func(n api.GdNode) bool {
		return !between(0, n.X, g.W-1) || !between(0, n.Y, g.H-1) || !validStep(n.Out[0]) || !validStep(n.Out[1])
	})
}

func validStep(s api.GdStep) bool {
	return between(-api.MaxGdStep, s.DX, api.MaxGdStep) && between(1, s.DY, api.MaxGdStep)
}

func validWindow(w api.GdWindow) bool {
	for _, place := range [...]int{w.X, w.Y} {
		if !between(-api.MaxGdPlace, place, api.MaxGdPlace) {
			return false
		}
	}
	return between(1, w.W, api.MaxGdWindow) && between(1, w.H, api.MaxGdWindow)
}
