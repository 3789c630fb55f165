package plane

import (
	"iter"
	"slices"

	"gooseneck/api"
)

// Hull returns the corners of the least convex set that contains some points. (P1.3)
func Hull(l []api.Point) ([]api.Point, api.Errno) {
	if e := checkLists(l); e != api.OK {
		return nil, e
	}
	if len(l) == 0 {
		return nil, api.ErrNone
	}
	return hull(l), api.OK
}

// IsHull reports whether a list is the hull of its points. (P1.3)
func IsHull(l []api.Point) bool {
	return checkHulls(l) == api.OK
}

// Inside reports whether a hull contains a point, or has it on its border. (P1.4)
func Inside(h []api.Point, p api.Point) (bool, api.Errno) {
	if e := checkHulls(h); e != api.OK {
		return false, e
	}
	if e := Check(p); e != api.OK {
		return false, e
	}
	return contains(h, p), api.OK
}

// Area returns twice the area of a hull. (P1.4)
func Area(h []api.Point) (int64, api.Errno) {
	if e := checkHulls(h); e != api.OK {
		return 0, e
	}
	var double int64
	for a, b := range neighbours(h) {
		double += cross(a, b)
	}
	return double, api.OK
}

// hull joins the corners below and above: both ends are in both lists.
func hull(l []api.Point) []api.Point {
	sorted := slices.Clone(l)
	slices.SortFunc(sorted, compare)
	sorted = slices.Compact(sorted)
	if len(sorted) == 1 {
		return sorted
	}
	below := leftTurns(sorted)
	slices.Reverse(sorted)
	above := leftTurns(sorted)
	return append(below[:len(below)-1], above[:len(above)-1]...)
}

// leftTurns returns the points of a sorted list that are left if it turns to the left at each of them.
func leftTurns(sorted []api.Point) []api.Point {
	var stack []api.Point
	for _, p := range sorted {
		stack = drop(stack, func(s []api.Point) bool {
			n := len(s)
			return n >= 2 && turn(s[n-2], s[n-1], p) <= 0
		})
		stack = append(stack, p)
	}
	return stack
}

// drop returns a stack without what is on its top as long as off says so.
func drop[T any](stack []T, off func([]T) bool) []T {
	for off(stack) {
		stack = stack[:len(stack)-1]
	}
	return stack
}

// isHull looks at turns only, for it is called for each argument that is a hull. Left turns alone may go around several
// times; if all points also go to the left around the first one, which begins the order, they go around once.
func isHull(l []api.Point) bool {
	if len(l) == 0 {
		return false
	}
	for i, p := range l[1:] {
		if compare(l[0], p) >= 0 || i > 0 && turn(l[0], l[i], p) <= 0 {
			return false
		}
	}
	return len(l) < 3 || turnsLeft(l)
}

func turnsLeft(l []api.Point) bool {
	n := len(l)
	for i, p := range l {
		if turn(p, l[(i+1)%n], l[(i+2)%n]) <= 0 {
			return false
		}
	}
	return true
}

// contains looks at the box, too: with one corner, or two, the sides alone leave points out of reach.
func contains(h []api.Point, p api.Point) bool {
	low, high := box(h)
	if p.X < low.X || p.X > high.X || p.Y < low.Y || p.Y > high.Y {
		return false
	}
	for a, b := range neighbours(h) {
		if turn(a, b, p) < 0 {
			return false
		}
	}
	return true
}

// neighbours yields each corner with the next one, the last one with the first; two corners make two pairs, one makes none.
func neighbours(h []api.Point) iter.Seq2[api.Point, api.Point] {
	return func(yield func(api.Point, api.Point) bool) {
		for i := range sides(h) {
			if !yield(h[i], h[(i+1)%len(h)]) {
				return
			}
		}
	}
}

func sides(h []api.Point) int {
	if len(h) == 1 {
		return 0
	}
	return len(h)
}

// box returns the least and the greatest coordinates of a hull.
func box(h []api.Point) (low, high api.Point) {
	low, high = h[0], h[0]
	for _, p := range h {
		low = api.Point{X: min(low.X, p.X), Y: min(low.Y, p.Y)}
		high = api.Point{X: max(high.X, p.X), Y: max(high.Y, p.Y)}
	}
	return low, high
}
