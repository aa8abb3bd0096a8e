package grids

import "torchon/api"

// applied returns the image of a point, be it valid or not.
func applied(m api.GrMove, p api.GrPoint) api.GrPoint {
	return api.GrPoint{X: m.M.A*p.X + m.M.B*p.Y + m.T.X, Y: m.M.C*p.X + m.M.D*p.Y + m.T.Y}
}

// Apply returns the image of a point.
func Apply(m api.GrMove, p api.GrPoint) (api.GrPoint, api.Errno) {
	if !validMove(m) || !validPoints(p) {
		return api.GrPoint{}, api.ErrArg
	}
	image := applied(m, p)
	if !validPoints(image) {
		return api.GrPoint{}, api.ErrRange
	}
	return image, api.OK
}

// Compose returns the move that first applies n and then m.
func Compose(m, n api.GrMove) (api.GrMove, api.Errno) {
	if !validMove(m) || !validMove(n) {
		return api.GrMove{}, api.ErrArg
	}
	both := api.GrMove{M: times(m.M, n.M), T: applied(m, n.T)}
	if !validMove(both) {
		return api.GrMove{}, api.ErrRange
	}
	return both, api.OK
}

// Invert returns the move that undoes a move.
func Invert(m api.GrMove) (api.GrMove, api.Errno) {
	if !validMove(m) {
		return api.GrMove{}, api.ErrArg
	}
	if d := determinant(m.M); d != 1 && d != -1 {
		return api.GrMove{}, api.ErrForm
	}
	back := api.GrMove{M: inverse(m.M)}
	back.T = step(applied(back, m.T), back.T)
	if !validMove(back) {
		return api.GrMove{}, api.ErrRange
	}
	return back, api.OK
}
