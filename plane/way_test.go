package plane_test

import (
	"math"
	"slices"
	"testing"

	"gooseneck/api"
	"gooseneck/plane"
)

// ends is the greatest polyline: 256 points that go from a corner of the place to the opposite one and back.
func ends() []api.Point {
	return slices.Repeat(pts(-far, -far, far, far), 128)
}

// P1.7
func TestLength(t *testing.T) {
	for _, x := range []struct {
		what string
		l    []api.Point
		want int64
	}{
		{"the example", pts(0, 0, 30, 40, 30, 100), 110},
		{"one point", pts(5, 5), 0},
		{"the same point", pts(5, 5, 5, 5, 5, 5), 0},
		{"each piece is rounded down", pts(0, 0, 1, 1, 2, 2, 3, 3), 3},
		{"back and forth", pts(0, 0, 9, 0, 0, 0), 18},
		{"the greatest", ends(), 255 * 47453132},
	} {
		n, e := plane.Length(x.l)
		checkNumber(t, x.what, n, e, x.want, api.OK)
	}
}

// P1.7
func TestAlong(t *testing.T) {
	l, again := pts(0, 0, 30, 40, 30, 100), pts(5, 5, 5, 5, 8, 9, 8, 9, 8, 9, 8, 5)
	for _, x := range []struct {
		what  string
		l     []api.Point
		s     int64
		p     api.Point
		piece int
	}{
		{"the first point", l, 0, pt(0, 0), 0},
		{"in the first piece", l, 25, pt(15, 20), 0},
		{"a point between", l, 50, pt(30, 40), 0},
		{"behind a point between", l, 51, pt(30, 41), 1},
		{"in the second piece", l, 60, pt(30, 50), 1},
		{"the last point", l, 110, pt(30, 100), 1},
		{"one point", pts(5, -5), 0, pt(5, -5), 0},
		{"only pieces without a length", pts(5, -5, 5, -5, 5, -5), 0, pt(5, -5), 0},
		{"behind a piece without a length", again, 0, pt(5, 5), 1},
		{"ahead of pieces without a length", again, 5, pt(8, 9), 1},
		{"behind pieces without a length", again, 6, pt(8, 8), 4},
		{"the end behind pieces without a length", again, 9, pt(8, 5), 4},
		{"an end of no length", pts(0, 0, 3, 0, 3, 0), 3, pt(3, 0), 0},
		{"a half is rounded up", pts(0, 0, 5, 5, 5, 6), 1, pt(1, 1), 0},
		{"a half below 0 is rounded up", pts(0, 0, -3, -3), 2, pt(-1, -1), 0},
		{"a half in X", pts(0, 0, 2, 5), 1, pt(0, 1), 0},
		{"a length that was rounded down", pts(0, 0, 1, 1, 2, 2), 1, pt(1, 1), 0},
		{"far", pts(-far, -far, far, far), 47453132, pt(far, far), 0},
		{"far between", pts(-far, -far, far, far), 47453132 / 2, pt(0, 0), 0},
		{"the greatest", ends(), 255 * 47453132, pt(far, far), 254},
	} {
		p, i, e := plane.Along(x.l, x.s)
		checkPoint(t, x.what, p, e, x.p, api.OK)
		if i != x.piece {
			t.Errorf("%s: piece %d, want %d", x.what, i, x.piece)
		}
	}
}

// P1.7
func TestAlongByChance(t *testing.T) {
	d := &dice{20}
	for round := range 400 {
		most := []int64{1, 9, 500, far}[round%4]
		l := d.points(int(d.roll(1, 8)), most)
		n, e := plane.Length(l)
		checkErr(t, "Length", e, api.OK)
		var want int64
		for i := range len(l) - 1 {
			want += distance(t, l[i], l[i+1])
		}
		checkNumber(t, "Length", n, e, want, api.OK)
		for range 20 {
			s := d.roll(0, n)
			p, i, e := plane.Along(l, s)
			q, j := alongOf(t, l, s)
			checkPoint(t, "Along", p, e, q, api.OK)
			if i != j {
				t.Errorf("Along of %v at %d: piece %d, want %d", l, s, i, j)
			}
		}
	}
}

// P1.7: too many points come first, then those that are not valid, then none, then s.
func TestWayErrors(t *testing.T) {
	long := slices.Repeat(pts(1, 1), 257)
	for _, x := range []struct {
		what          string
		l             []api.Point
		s             int64
		length, along api.Errno
	}{
		{"nil", nil, 0, api.ErrNone, api.ErrNone},
		{"empty, s below 0", pts(), -1, api.ErrNone, api.ErrNone},
		{"too many", long, -1, api.ErrMany, api.ErrMany},
		{"too many, one not valid", append(slices.Clone(long), pt(far+1, 0)), 0, api.ErrMany, api.ErrMany},
		{"the first one not valid", pts(far+1, 0, 0, 0), -1, api.ErrArg, api.ErrArg},
		{"the last one not valid", pts(0, 0, 1, 1, 0, -far-1), 1, api.ErrArg, api.ErrArg},
		{"the only one not valid", pts(math.MinInt64, 0), 0, api.ErrArg, api.ErrArg},
		{"s below 0", pts(0, 0, 9, 0), -1, api.OK, api.ErrRange},
		{"s behind the end", pts(0, 0, 9, 0), 10, api.OK, api.ErrRange},
		{"s behind one point", pts(0, 0), 1, api.OK, api.ErrRange},
		{"s far behind the end", pts(0, 0, 9, 0), math.MaxInt64, api.OK, api.ErrRange},
		{"s far below 0", pts(0, 0, 9, 0), math.MinInt64, api.OK, api.ErrRange},
	} {
		n, e := plane.Length(x.l)
		checkErr(t, "Length: "+x.what, e, x.length)
		if e != api.OK && n != 0 {
			t.Errorf("Length: %s: %d with an error", x.what, n)
		}
		p, i, e := plane.Along(x.l, x.s)
		checkPoint(t, "Along: "+x.what, p, e, api.Point{}, x.along)
		if i != 0 {
			t.Errorf("Along: %s: piece %d with an error", x.what, i)
		}
	}
}

// P1.14
func TestAlongGoesFromEndToEnd(t *testing.T) {
	d := &dice{21}
	for round := range 600 {
		most := []int64{1, 4, 70, far}[round%4]
		l := d.points(int(d.roll(1, 6)), most)
		n, _ := plane.Length(l)
		p, _, e := plane.Along(l, 0)
		checkPoint(t, "Along at 0", p, e, l[0], api.OK)
		p, _, e = plane.Along(l, n)
		checkPoint(t, "Along at the end", p, e, l[len(l)-1], api.OK)
		for range 30 {
			s := d.roll(0, max(0, n-1))
			p, i, _ := plane.Along(l, s)
			q, j, e := plane.Along(l, min(n, s+1))
			if e != api.OK || i == j && !within(p, q, 2) {
				t.Errorf("Along of %v at %d: %v, and then %v, %d", l, s, p, q, e)
			}
		}
	}
}
