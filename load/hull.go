package load

import (
	"cmp"
	"slices"

	"gooseneck/api"
)

// The points of a reach are forces, and have coordinates of up to 2^28. Those of package plane are places, up to 2^24: so
// what it does with hulls cannot be used for them.

func plus(a, b api.Point) api.Point { return api.Point{X: a.X + b.X, Y: a.Y + b.Y} }

func minus(a, b api.Point) api.Point { return api.Point{X: a.X - b.X, Y: a.Y - b.Y} }

func dot(a, b api.Point) int64 { return a.X*b.X + a.Y*b.Y }

func cross(a, b api.Point) int64 { return a.X*b.Y - a.Y*b.X }

// hull goes from corner to corner, counterclockwise, until it is back at the first one.
func hull(l []api.Point) []api.Point {
	first := slices.MinFunc(l, func(a, b api.Point) int {
		return cmp.Or(cmp.Compare(a.X, b.X), cmp.Compare(a.Y, b.Y))
	})
	h := []api.Point{first}
	for at := next(l, first); at != first; at = next(l, at) {
		h = append(h, at)
	}
	return h
}

// next returns the corner behind another one: all points are to the left of the way to it, or nearer on this way.
func next(l []api.Point, at api.Point) api.Point {
	var way api.Point
	for _, p := range l {
		other := minus(p, at)
		turn := cross(way, other)
		if turn < 0 || turn == 0 && dot(other, other) > dot(way, way) {
			way = other
		}
	}
	return plus(at, way)
}

// sum returns the hull of all sums of one point of each hull. It has the sides of all of them in the order of their
// directions, and begins where all of them begin, for they begin in the same order.
func sum(hulls [][]api.Point) []api.Point {
	var at api.Point
	var ways []api.Point
	for _, h := range hulls {
		at = plus(at, h[0])
		ways = append(ways, sides(h)...)
	}
	slices.SortFunc(ways, compareWays)
	corners := []api.Point{at}
	for i, way := range ways {
		at = plus(at, way)
		// Sides of one direction are one side. The last one has led back to the first corner.
		if i < len(ways)-1 && compareWays(way, ways[i+1]) != 0 {
			corners = append(corners, at)
		}
	}
	return corners
}

// sides returns the ways from each corner to the next one; a single corner has none.
func sides(h []api.Point) []api.Point {
	if len(h) == 1 {
		return nil
	}
	var l []api.Point
	for i, p := range h {
		l = append(l, minus(h[(i+1)%len(h)], p))
	}
	return l
}

// compareWays orders ways by their directions, counterclockwise, as the sides of a hull follow each other: from the
// corner with the least X on they first go forward, or straight to the left, and then back.
func compareWays(a, b api.Point) int {
	if c := cmp.Compare(half(a), half(b)); c != 0 {
		return c
	}
	return cmp.Compare(0, cross(a, b))
}

func half(way api.Point) int {
	if way.X > 0 || way.X == 0 && way.Y > 0 {
		return 0
	}
	return 1
}

// directions returns the directions of a hull: those that look away from its sides. If it is a line, they also look away
// from its ends; if it is a point, to all four sides.
func directions(h []api.Point) []api.Point {
	if len(h) == 1 {
		return []api.Point{{X: 1}, {Y: 1}, {X: -1}, {Y: -1}}
	}
	var l []api.Point
	ways := sides(h)
	for _, way := range ways {
		l = append(l, api.Point{X: way.Y, Y: -way.X})
	}
	if len(h) == 2 {
		l = append(l, ways...)
	}
	return l
}
