package plane_test

// The oracles find by the definitions, and slowly, what the package finds by other ways.

import (
	"cmp"
	"math/big"
	"slices"
	"testing"

	"gooseneck/api"
	"gooseneck/plane"
)

// turnOf is the turn of three points; their coordinates are valid, so that nothing wraps around.
func turnOf(a, b, c api.Point) int {
	return cmp.Compare((b.X-a.X)*(c.Y-a.Y), (b.Y-a.Y)*(c.X-a.X))
}

// onPiece reports whether p is on the piece from a to b.
func onPiece(a, b, p api.Point) bool {
	return turnOf(a, b, p) == 0 &&
		min(a.X, b.X) <= p.X && p.X <= max(a.X, b.X) && min(a.Y, b.Y) <= p.Y && p.Y <= max(a.Y, b.Y)
}

// inTriangle reports whether p is in the triangle of three points, which may be on a line.
func inTriangle(a, b, c, p api.Point) bool {
	if turnOf(a, b, c) == 0 {
		return onPiece(a, b, p) || onPiece(b, c, p) || onPiece(a, c, p)
	}
	u, v, w := turnOf(a, b, p), turnOf(b, c, p), turnOf(c, a, p)
	return u >= 0 && v >= 0 && w >= 0 || u <= 0 && v <= 0 && w <= 0
}

// covers reports whether the least convex set of some points contains p: then a triangle of them does.
func covers(l []api.Point, p api.Point) bool {
	for _, a := range l {
		for _, b := range l {
			for _, c := range l {
				if inTriangle(a, b, c, p) {
					return true
				}
			}
		}
	}
	return false
}

// hullOf returns the points that the others do not cover, around the first one.
func hullOf(l []api.Point) []api.Point {
	l = slices.Clone(l)
	slices.SortFunc(l, func(a, b api.Point) int { return cmp.Or(cmp.Compare(a.X, b.X), cmp.Compare(a.Y, b.Y)) })
	l = slices.Compact(l)
	corners := []api.Point{}
	for i, p := range l {
		if !covers(slices.Delete(slices.Clone(l), i, i+1), p) {
			corners = append(corners, p)
		}
	}
	slices.SortFunc(corners[1:], func(a, b api.Point) int { return -turnOf(corners[0], a, b) })
	return corners
}

// piecesMeet reports whether two pieces have a point in common.
func piecesMeet(a, b, c, d api.Point) bool {
	if onPiece(a, b, c) || onPiece(a, b, d) || onPiece(c, d, a) || onPiece(c, d, b) {
		return true
	}
	return turnOf(a, b, c)*turnOf(a, b, d) < 0 && turnOf(c, d, a)*turnOf(c, d, b) < 0
}

// haveCommon reports whether the least convex sets of some points have a point in common: then one of them contains a
// corner of the other one, or two sides cross.
func haveCommon(a, b []api.Point) bool {
	for _, p := range a {
		if covers(b, p) {
			return true
		}
	}
	for _, p := range b {
		if covers(a, p) {
			return true
		}
	}
	for i := range a {
		for j := range b {
			if piecesMeet(a[i], a[(i+1)%len(a)], b[j], b[(j+1)%len(b)]) {
				return true
			}
		}
	}
	return false
}

// grownOf returns the hull grown by t.
func grownOf(h []api.Point, t int64) []api.Point {
	l := []api.Point{}
	for _, p := range h {
		l = append(l, pt(p.X-t, p.Y-t), pt(p.X+t, p.Y-t), pt(p.X-t, p.Y+t), pt(p.X+t, p.Y+t))
	}
	return hullOf(l)
}

// gapOf returns the least t for which a hull grown by it meets another one.
func gapOf(a, b []api.Point) int64 {
	var t int64
	for !haveCommon(grownOf(a, t), b) {
		t++
	}
	return t
}

// parts reports whether a line parts two hulls, in numbers without an end.
func parts(a, b []api.Point, l api.Line) bool {
	side := func(p api.Point) int {
		n := new(big.Int).Mul(big.NewInt(l.X), big.NewInt(p.X))
		n.Add(n, new(big.Int).Mul(big.NewInt(l.Y), big.NewInt(p.Y)))
		return n.Cmp(big.NewInt(l.K))
	}
	for _, p := range a {
		if side(p) > 0 {
			return false
		}
	}
	for _, p := range b {
		if side(p) <= 0 {
			return false
		}
	}
	return true
}

// floorOf returns n / d, rounded down, in numbers without an end.
func floorOf(n, d *big.Int) int64 {
	q, _ := new(big.Int).DivMod(n, d, new(big.Int)) // rounds down, as d is above 0
	return q.Int64()
}

// nearestOf returns nearest n / d, in numbers without an end.
func nearestOf(n, d *big.Int) int64 {
	two := big.NewInt(2)
	n = new(big.Int).Add(new(big.Int).Mul(n, two), d)
	return floorOf(n, new(big.Int).Mul(d, two))
}

// sumOf returns a b + c d, in numbers without an end.
func sumOf(a, b, c, d int64) *big.Int {
	n := new(big.Int).Mul(big.NewInt(a), big.NewInt(b))
	return n.Add(n, new(big.Int).Mul(big.NewInt(c), big.NewInt(d)))
}

// placeOf returns the place of a body, in numbers without an end.
func placeOf(a, h api.Point, x, y int64) api.Point {
	u, v := h.X-a.X, h.Y-a.Y
	r := new(big.Int).Mul(sumOf(u, u, v, v), big.NewInt(1024))
	r.Sqrt(r)
	times := func(n *big.Int) *big.Int { return new(big.Int).Mul(n, big.NewInt(32)) }
	return pt(a.X+nearestOf(times(sumOf(u, x, -v, y)), r), a.Y+nearestOf(times(sumOf(v, x, u, y)), r))
}

// alongOf returns the point at s of a polyline and its piece, from the definition.
func alongOf(t *testing.T, l []api.Point, s int64) (api.Point, int) {
	var before int64
	for i := range len(l) - 1 {
		d := distance(t, l[i], l[i+1])
		if d > 0 && before+d >= s {
			r := big.NewInt(s - before)
			x := new(big.Int).Mul(big.NewInt(l[i+1].X-l[i].X), r)
			y := new(big.Int).Mul(big.NewInt(l[i+1].Y-l[i].Y), r)
			return pt(l[i].X+nearestOf(x, big.NewInt(d)), l[i].Y+nearestOf(y, big.NewInt(d))), i
		}
		before += d
	}
	return l[0], 0
}

// TestOracles holds the oracles against what is plain to see, so that they do not agree with a wrong package by chance.
func TestOracles(t *testing.T) {
	checkSame(t, "hullOf", hullOf(pts(2, 2, 0, 0, 4, 0, 2, 1, 2, 0)), pts(0, 0, 4, 0, 2, 2))
	checkSame(t, "hullOf of a line", hullOf(pts(1, 1, 3, 3, 2, 2)), pts(1, 1, 3, 3))
	checkSame(t, "grownOf", grownOf(pts(1, 1), 2), pts(-1, -1, 3, -1, 3, 3, -1, 3))
	if g := gapOf(pts(0, 0, 4, 0, 2, 2), pts(3, 2, 5, 5)); g != 1 {
		t.Errorf("gapOf: %d", g)
	}
	if !plane.IsHull(bow(256)) || !plane.IsHull(wheel()) || len(wheel()) != 256 {
		t.Error("the great hulls of the tests are none")
	}
}
