// Package plane is layer 1: it computes with points of whole millimetres (see shared/doc/01-plane.md).
//
// Valid coordinates have amounts of at most 2^24. Sums of hulls have at most twice that, so each product of two
// differences fits into 64 bits, and nothing here needs more.
package plane

import (
	"cmp"

	"gooseneck/api"
)

// Check returns ErrArg if a point is not valid. (P1.2)
func Check(p api.Point) api.Errno {
	if beyond(p.X, api.MaxPlace) || beyond(p.Y, api.MaxPlace) {
		return api.ErrArg
	}
	return api.OK
}

// Turn returns 1 if three points turn to the left, -1 to the right, 0 if they are on a line. (P1.2)
func Turn(a, b, c api.Point) (int, api.Errno) {
	if e := checkPoints(a, b, c); e != api.OK {
		return 0, e
	}
	return turn(a, b, c), api.OK
}

// Distance returns the distance of two points, rounded down. (P1.2)
func Distance(a, b api.Point) (int64, api.Errno) {
	if e := checkPoints(a, b); e != api.OK {
		return 0, e
	}
	return distance(a, b), api.OK
}

func turn(a, b, c api.Point) int {
	return cmp.Compare(cross(minus(b, a), minus(c, a)), 0)
}

func distance(a, b api.Point) int64 {
	d := minus(b, a)
	return root(dot(d, d))
}

func plus(a, b api.Point) api.Point { return api.Point{X: a.X + b.X, Y: a.Y + b.Y} }

func minus(a, b api.Point) api.Point { return api.Point{X: a.X - b.X, Y: a.Y - b.Y} }

func dot(a, b api.Point) int64 { return a.X*b.X + a.Y*b.Y }

func cross(a, b api.Point) int64 { return a.X*b.Y - a.Y*b.X }

// compare orders points by X, then by Y: the first one in this order begins a hull.
func compare(a, b api.Point) int {
	return cmp.Or(cmp.Compare(a.X, b.X), cmp.Compare(a.Y, b.Y))
}

func checkPoints(l ...api.Point) api.Errno {
	for _, p := range l {
		if e := Check(p); e != api.OK {
			return e
		}
	}
	return api.OK
}

// checkLists looks at the lengths of all lists before any of their points: ErrMany comes ahead of ErrArg.
func checkLists(lists ...[]api.Point) api.Errno {
	for _, l := range lists {
		if len(l) > api.MaxPoints {
			return api.ErrMany
		}
	}
	for _, l := range lists {
		if e := checkPoints(l...); e != api.OK {
			return e
		}
	}
	return api.OK
}

func checkHulls(hulls ...[]api.Point) api.Errno {
	if e := checkLists(hulls...); e != api.OK {
		return e
	}
	for _, h := range hulls {
		if !isHull(h) {
			return api.ErrArg
		}
	}
	return api.OK
}

// result returns a point that was computed, or ErrOver if it is beyond the place.
func result(p api.Point) (api.Point, api.Errno) {
	if Check(p) != api.OK {
		return api.Point{}, api.ErrOver
	}
	return p, api.OK
}
