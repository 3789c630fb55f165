package load

import (
	"iter"

	"gooseneck/api"
	"gooseneck/plane"
)

// Outline returns the outline. (P2.3)
func Outline(l api.Load) ([]api.Point, api.Errno) {
	if e := Check(l); e != api.OK {
		return nil, e
	}
	return outline(l.Pieces)
}

// Above returns the outline above a height. (P2.3)
func Above(l api.Load, z int64) ([]api.Point, api.Errno) {
	if e := Check(l); e != api.OK {
		return nil, e
	}
	var high []api.Piece
	for _, p := range l.Pieces {
		if p.Z+p.H > z {
			high = append(high, p)
		}
	}
	return outline(high)
}

// outline returns the hull of all corners in the plan, or ErrNone if there are no pieces. (32 pieces have 128 corners,
// which are places of the plane, so there is no other error.)
func outline(pieces []api.Piece) ([]api.Point, api.Errno) {
	var l []api.Point
	for _, p := range pieces {
		for c := range corners(p) {
			l = append(l, c)
		}
	}
	return plane.Hull(l)
}

// corners yields the corners of a piece in the plan.
func corners(p api.Piece) iter.Seq[api.Point] {
	return func(yield func(api.Point) bool) {
		for i := range int64(4) {
			if !yield(api.Point{X: p.X + i%2*p.L, Y: p.Y + i/2*p.W}) {
				return
			}
		}
	}
}
