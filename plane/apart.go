package plane

import "gooseneck/api"

// The limits of a line that parts two hulls.
const (
	maxSlope = 1 << 26
	maxShift = 1 << 52
)

// Meet reports whether two hulls have a point in common. (P1.4)
func Meet(a, b []api.Point) (bool, api.Errno) {
	if e := checkHulls(a, b); e != api.OK {
		return false, e
	}
	return contains(differences(a, b), api.Point{}), api.OK
}

// Grow returns the hull of all that is at most t away from a hull, in X and in Y. (P1.5)
func Grow(h []api.Point, t int64) ([]api.Point, api.Errno) {
	if e := checkHulls(h); e != api.OK {
		return nil, e
	}
	if t < 0 || t > 2*api.MaxPlace {
		return nil, api.ErrRange
	}
	grown := sums(h, square(t))
	if len(grown) > api.MaxPoints {
		return nil, api.ErrMany
	}
	if checkPoints(grown...) != api.OK {
		return nil, api.ErrOver
	}
	return grown, api.OK
}

// Gap returns by how much a hull has to be grown to meet another one. (P1.5)
func Gap(a, b []api.Point) (int64, api.Errno) {
	if e := checkHulls(a, b); e != api.OK {
		return 0, e
	}
	return away(differences(a, b)), api.OK
}

// Part returns a line that parts two hulls. (P1.6)
func Part(a, b []api.Point) (api.Line, api.Errno) {
	if e := checkHulls(a, b); e != api.OK {
		return api.Line{}, e
	}
	// If two convex sets do not meet, a side of their differences has (0, 0) outside, or their box has.
	if l, ok := firstLine(a, b, outwards(differences(a, b))...); ok {
		return l, api.OK
	}
	return api.Line{}, api.ErrNone
}

// CheckPart reports whether a line parts two hulls. (P1.6)
func CheckPart(a, b []api.Point, l api.Line) api.Errno {
	if e := checkHulls(a, b); e != api.OK {
		return e
	}
	if beyond(l.X, maxSlope) || beyond(l.Y, maxSlope) || beyond(l.K, maxShift) {
		return api.ErrRange
	}
	n := api.Point{X: l.X, Y: l.Y}
	if highest(a, n) > l.K || l.K >= lowest(b, n) {
		return api.ErrSum
	}
	return api.OK
}

// differences returns the hull of all differences of a point of a and one of b. The hulls meet just if it contains
// (0, 0); the gap is how far it is away from there.
func differences(a, b []api.Point) []api.Point { return sums(a, opposite(b)) }

// sums returns the hull of all sums of a point of a and one of b: it has the sides of both, in the order of their
// directions, and sides of one direction are joined. Both hulls begin with the first corner of the same order, so their
// sum begins the new one. Behind the last side of a hull comes its first one again: it is less than half a turn ahead of
// all sides that the other one has left, so these are taken.
func sums(a, b []api.Point) []api.Point {
	n, m := sides(a), sides(b)
	l := make([]api.Point, 1, n+m+1)
	l[0] = plus(a[0], b[0])
	for i, j := 0, 0; i < n || j < m; {
		c := cross(side(a, i), side(b, j))
		if c >= 0 {
			i++
		}
		if c <= 0 {
			j++
		}
		l = append(l, plus(a[i%len(a)], b[j%len(b)]))
	}
	// If there are sides, the last one has led back to the first corner.
	return l[:max(1, len(l)-1)]
}

// side returns the way from a corner to the next one.
func side(h []api.Point, i int) api.Point {
	n := len(h)
	return minus(h[(i+1)%n], h[i%n])
}

// opposite returns a hull turned about (0, 0) by a half turn: the last corner of the order begins it.
func opposite(h []api.Point) []api.Point {
	last := 0
	for i, p := range h {
		if compare(p, h[last]) > 0 {
			last = i
		}
	}
	l := make([]api.Point, 0, len(h))
	for i := range h {
		l = append(l, minus(api.Point{}, h[(last+i)%len(h)]))
	}
	return l
}

// square returns the hull of all that is at most t away from (0, 0), in X and in Y.
func square(t int64) []api.Point {
	if t == 0 {
		return []api.Point{{}}
	}
	return []api.Point{{X: -t, Y: -t}, {X: t, Y: -t}, {X: t, Y: t}, {X: -t, Y: t}}
}

// away returns the least whole t for which a hull grown by t contains (0, 0). Growing by t moves each side of the box
// by t, and the line of another side, whose normal is (x, y), by t times the amounts of x and y.
func away(h []api.Point) int64 {
	low, high := box(h)
	t := max(0, low.X, -high.X, low.Y, -high.Y)
	for a, b := range neighbours(h) {
		way := minus(b, a)
		t = max(t, -floor(cross(a, b), amount(way.X)+amount(way.Y)))
	}
	return t
}

// outwards returns the directions that look away from a hull: those of its box, then those of its sides.
func outwards(h []api.Point) []api.Point {
	l := []api.Point{{X: 1}, {Y: 1}, {X: -1}, {Y: -1}}
	for a, b := range neighbours(h) {
		l = append(l, api.Point{X: b.Y - a.Y, Y: a.X - b.X})
	}
	return l
}

// firstLine returns the first line across one of the directions that touches a and parts it from b.
func firstLine(a, b []api.Point, directions ...api.Point) (api.Line, bool) {
	for _, n := range directions {
		if k := highest(a, n); k < lowest(b, n) {
			return api.Line{X: n.X, Y: n.Y, K: k}, true
		}
	}
	return api.Line{}, false
}

// highest returns how far a hull reaches in a direction.
func highest(h []api.Point, n api.Point) int64 {
	most := dot(h[0], n)
	for _, p := range h {
		most = max(most, dot(p, n))
	}
	return most
}

// lowest returns from where on a hull reaches in a direction.
func lowest(h []api.Point, n api.Point) int64 {
	return -highest(h, minus(api.Point{}, n))
}

func amount(n int64) int64 { return max(n, -n) }
