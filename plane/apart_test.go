package plane_test

import (
	"math"
	"testing"

	"gooseneck/api"
	"gooseneck/plane"
)

// apartCases are two hulls with their gap; those with the gap 0 meet.
var apartCases = []struct {
	what string
	a, b []api.Point
	gap  int64
}{
	{"the example that meets", pts(0, 0, 4, 0, 2, 2), pts(2, 2, 3, 5), 0},
	{"the example that does not", pts(0, 0, 4, 0, 2, 2), pts(3, 2, 5, 5), 1},
	{"a point below", pts(0, 0, 4, 0, 2, 2), pts(0, -3), 3},
	{"the same hull", pts(0, 0, 4, 0, 2, 2), pts(0, 0, 4, 0, 2, 2), 0},
	{"one within the other one", pts(0, 0, 9, 0, 0, 9), pts(1, 1, 2, 1, 1, 2), 0},
	{"a cross", pts(0, 0, 9, 0, 9, 1, 0, 1), pts(4, -4, 5, -4, 5, 5, 4, 5), 0},
	{"pieces that cross between whole points", pts(0, 0, 1, 1), pts(0, 1, 1, 0), 0},
	{"pieces that touch between whole points", pts(0, 0, 2, 1), pts(1, 0, 1, 1), 0},
	{"pieces on a line, one behind the other one", pts(0, 0, 2, 2), pts(3, 3, 5, 5), 1},
	{"pieces on a line that share an end", pts(0, 0, 2, 2), pts(2, 2, 5, 5), 0},
	{"pieces on a line that lie over each other", pts(0, 0, 3, 3), pts(2, 2, 5, 5), 0},
	{"pieces beside each other", pts(0, 0, 4, 4), pts(1, 0, 5, 4), 1},
	{"pieces beside each other, two apart", pts(0, 0, 4, 4), pts(2, 0, 6, 4), 1},
	{"pieces beside each other, three apart", pts(0, 0, 4, 4), pts(3, 0, 7, 4), 2},
	{"pieces along X", pts(0, 0, 4, 0), pts(0, 7, 4, 7), 7},
	{"pieces along Y", pts(0, 0, 0, 4), pts(7, 0, 7, 4), 7},
	{"pieces on a line along Y", pts(0, 0, 0, 4), pts(0, 9, 0, 12), 5},
	{"pieces on a line along X", pts(0, 0, 4, 0), pts(9, 0, 12, 0), 5},
	{"a piece that only its line would meet", pts(0, 0, 4, 4), pts(6, 5, 9, 2), 2},
	{"the same point", pts(3, 3), pts(3, 3), 0},
	{"points in X", pts(3, 3), pts(8, 4), 5},
	{"points in Y", pts(3, 3), pts(4, -5), 8},
	{"a point on a piece", pts(0, 0, 4, 2), pts(2, 1), 0},
	{"a point beside a piece", pts(0, 0, 4, 2), pts(1, 1), 1},
	{"a point behind a piece", pts(0, 0, 4, 2), pts(6, 3), 2},
	{"a point at a side that is no axis", pts(0, 0, 10, 5, 0, 5), pts(10, 0), 4},
	{"a gap that is not whole", pts(0, 0, 3, 0, 0, 3), pts(2, 2), 1},
	{"a side that touches a corner", pts(0, 0, 4, 0, 4, 4), pts(0, 4, 2, 2, 2, 5), 0},
	{"a side one beside a corner", pts(0, 0, 4, 0, 4, 4), pts(0, 5, 2, 3, 2, 6), 1},
	{"the corners of the place", pts(-far, -far), pts(far, far), 2 * far},
	{"the sides of the place", pts(-far, -far, -far, far), pts(far, -far, far, far), 2 * far},
	{"long pieces that cross", pts(-far, -far, far, far), pts(-far, far, far, -far), 0},
	{"long pieces beside each other", pts(-far, -far, far-1, far), pts(-far+1, -far, far, far), 1},
	{"a long piece and a point beside it", pts(-far, -far, far, far-1), pts(far-1, far-1), 1},
	{"a long piece and a point on it", pts(-far, -far, far, far-2), pts(0, -1), 0},
	{"great hulls", bow(256), moved(wheel(), pt(-9000, 0)), 9000 - 4096},
}

// P1.4, P1.5
func TestMeetAndGap(t *testing.T) {
	for _, x := range apartCases {
		if meet(t, x.a, x.b) != (x.gap == 0) {
			t.Errorf("Meet of %s: %v", x.what, x.gap != 0)
		}
		if n := gap(t, x.a, x.b); n != x.gap {
			t.Errorf("Gap of %s: %d, want %d", x.what, n, x.gap)
		}
	}
}

// P1.4, P1.5
func TestMeetAndGapByChance(t *testing.T) {
	d := &dice{10}
	for range 1500 {
		a := d.hull(t, 6, 5)
		b := moved(d.hull(t, 6, 5), d.point(6))
		if want := haveCommon(a, b); meet(t, a, b) != want {
			t.Errorf("Meet of %v and %v: %v", a, b, !want)
		}
		if n, want := gap(t, a, b), gapOf(a, b); n != want {
			t.Errorf("Gap of %v and %v: %d, want %d", a, b, n, want)
		}
	}
	for range 300 {
		a, b := d.hull(t, 4, far), d.hull(t, 4, far)
		if want := haveCommon(a, b); meet(t, a, b) != want {
			t.Errorf("Meet of %v and %v: %v", a, b, !want)
		}
	}
}

// P1.5
func TestGrow(t *testing.T) {
	for _, x := range []struct {
		what    string
		h, want []api.Point
		t       int64
	}{
		{"the example", pts(1, 1), pts(-1, -1, 3, -1, 3, 3, -1, 3), 2},
		{"a point by 0", pts(1, 1), pts(1, 1), 0},
		{"a piece by 0", pts(1, 1, 2, 5), pts(1, 1, 2, 5), 0},
		{"a triangle by 0", pts(0, 0, 4, 0, 2, 2), pts(0, 0, 4, 0, 2, 2), 0},
		{"a piece along X", pts(0, 0, 5, 0), pts(-1, -1, 6, -1, 6, 1, -1, 1), 1},
		{"a piece along Y", pts(0, 0, 0, 5), pts(-1, -1, 1, -1, 1, 6, -1, 6), 1},
		{"a piece up", pts(0, 0, 5, 3), pts(-1, -1, 1, -1, 6, 2, 6, 4, 4, 4, -1, 1), 1},
		{"a piece down", pts(0, 3, 5, 0), pts(-1, 2, 4, -1, 6, -1, 6, 1, 1, 4, -1, 4), 1},
		{"a triangle", pts(0, 0, 4, 0, 2, 2), pts(-1, -1, 5, -1, 5, 1, 3, 3, 1, 3, -1, 1), 1},
		{"up to the border", pts(0, 0), pts(-far, -far, far, -far, far, far, -far, far), far},
		{"no more sides along the axes", pts(0, 0, 2, 0, 2, 2, 0, 2), pts(-3, -3, 5, -3, 5, 5, -3, 5), 3},
	} {
		g, e := plane.Grow(x.h, x.t)
		checkSame(t, x.what, g, x.want)
		checkErr(t, x.what, e, api.OK)
	}
	d := &dice{11}
	for range 300 {
		h, by := d.hull(t, 6, 6), d.roll(0, 4)
		g, e := plane.Grow(h, by)
		checkSame(t, "Grow", g, grownOf(h, by))
		checkErr(t, "Grow", e, api.OK)
	}
}

// P1.5: at most 256 corners; a hull without sides along the axes gets four more.
func TestGrowCorners(t *testing.T) {
	for _, x := range []struct {
		what    string
		h       []api.Point
		t       int64
		corners int
		want    api.Errno
	}{
		{"252 corners", bow(252), 1, 256, api.OK},
		{"253 corners", bow(253), 1, 0, api.ErrMany},
		{"256 corners", bow(256), 1, 0, api.ErrMany},
		{"256 corners by 0", bow(256), 0, 256, api.OK},
		{"256 corners with sides along the axes", wheel(), 1000, 256, api.OK},
	} {
		g, e := plane.Grow(x.h, x.t)
		checkErr(t, x.what, e, x.want)
		if len(g) != x.corners || e == api.OK && !plane.IsHull(g) {
			t.Errorf("%s: %d corners, want %d", x.what, len(g), x.corners)
		}
	}
}

// P1.5: ErrRange comes ahead of ErrMany, and this ahead of ErrOver.
func TestGrowErrors(t *testing.T) {
	for _, x := range []struct {
		what string
		h    []api.Point
		t    int64
		want api.Errno
	}{
		{"below 0", pts(0, 0), -1, api.ErrRange},
		{"too great", pts(0, 0), 2*far + 1, api.ErrRange},
		{"the greatest", pts(0, 0), 2 * far, api.ErrOver},
		{"the greatest number", pts(0, 0), math.MaxInt64, api.ErrRange},
		{"the least number", pts(0, 0), math.MinInt64, api.ErrRange},
		{"one beyond the border", pts(0, 0), far + 1, api.ErrOver},
		{"beyond X", pts(far, 0), 1, api.ErrOver},
		{"beyond -X", pts(-far, 0), 1, api.ErrOver},
		{"beyond Y", pts(0, far), 1, api.ErrOver},
		{"beyond -Y", pts(0, -far), 1, api.ErrOver},
		{"too many and too great", bow(253), 2*far + 1, api.ErrRange},
		{"too many and beyond", bow(253), far, api.ErrMany},
	} {
		g, e := plane.Grow(x.h, x.t)
		checkErr(t, x.what, e, x.want)
		checkSame(t, x.what, g, nil)
	}
}

// checkLine reports a result of Part that is not right for hulls that meet, or do not.
func checkLine(t *testing.T, what string, a, b []api.Point, meet bool) {
	t.Helper()
	l, e := plane.Part(a, b)
	if meet {
		if e != api.ErrNone || l != (api.Line{}) {
			t.Errorf("Part of %s: %v, %d", what, l, e)
		}
		return
	}
	if e != api.OK || !parts(a, b, l) {
		t.Errorf("Part of %s: %v, %d", what, l, e)
	}
	if amount(l.X) > 1<<26 || amount(l.Y) > 1<<26 {
		t.Errorf("Part of %s: %v is too great", what, l)
	}
	checkErr(t, "CheckPart of "+what, plane.CheckPart(a, b, l), api.OK)
}

// P1.6
func TestPart(t *testing.T) {
	for _, x := range apartCases {
		checkLine(t, x.what, x.a, x.b, x.gap == 0)
		checkLine(t, x.what+", exchanged", x.b, x.a, x.gap == 0)
	}
	d := &dice{12}
	for round := range 2000 {
		most := []int64{5, 40, far}[round%3]
		a, b := d.hull(t, 5, most), d.hull(t, 5, most)
		checkLine(t, "hulls by chance", a, b, haveCommon(a, b))
	}
}

// P1.6: long sides side by side, for which only lines with great numbers part.
func TestPartOfLongSides(t *testing.T) {
	for _, x := range []struct {
		what string
		a, b []api.Point
	}{
		{"side by side", pts(-far, -far, far, far-1), pts(-far, -far+1, far, far)},
		{"a corner between", pts(-far, -far, far, far-1), pts(-far, far, 0, 0, far, far)},
		{"three corners each", pts(-far, -far, far, -far, far, far-1), pts(-far, -far+1, far, far, -far, far)},
	} {
		checkLine(t, x.what, x.a, x.b, false)
		checkLine(t, x.what+", exchanged", x.b, x.a, false)
	}
}

// P1.6
func TestCheckPart(t *testing.T) {
	a, b := pts(0, 0, 4, 0, 2, 2), pts(3, 2, 5, 5)
	const slope, shift = 1 << 26, 1 << 52
	for _, x := range []struct {
		what string
		l    api.Line
		want api.Errno
	}{
		{"a line that parts", api.Line{X: 1, Y: 1, K: 4}, api.OK},
		{"the first one touches it", api.Line{X: 2, Y: 2, K: 8}, api.OK},
		{"the first one is cut", api.Line{X: 2, Y: 2, K: 7}, api.ErrSum},
		{"just before the second one", api.Line{X: 2, Y: 2, K: 9}, api.OK},
		{"the second one touches it", api.Line{X: 2, Y: 2, K: 10}, api.ErrSum},
		{"the wrong way round", api.Line{X: -2, Y: -2, K: -9}, api.ErrSum},
		{"no direction", api.Line{}, api.ErrSum},
		{"no direction, below", api.Line{K: -1}, api.ErrSum},
		{"another direction", api.Line{X: 1, Y: 0, K: 4}, api.ErrSum},
		{"the greatest X and Y", api.Line{X: slope, Y: slope, K: 4 * slope}, api.OK},
		{"the least X and Y", api.Line{X: -slope, Y: -slope, K: 4 * slope}, api.ErrSum},
		{"X too great", api.Line{X: slope + 1, Y: slope, K: 4*slope + 4}, api.ErrRange},
		{"Y too great", api.Line{X: slope, Y: slope + 1, K: 4*slope + 4}, api.ErrRange},
		{"X too low", api.Line{X: -slope - 1, K: 0}, api.ErrRange},
		{"Y too low", api.Line{Y: -slope - 1, K: 0}, api.ErrRange},
		{"the greatest K", api.Line{X: 1, Y: 1, K: shift}, api.ErrSum},
		{"the least K", api.Line{X: 1, Y: 1, K: -shift}, api.ErrSum},
		{"K too great", api.Line{X: 1, Y: 1, K: shift + 1}, api.ErrRange},
		{"K too low", api.Line{X: 1, Y: 1, K: -shift - 1}, api.ErrRange},
		{"numbers that wrap around", api.Line{X: math.MinInt64, Y: math.MinInt64, K: math.MinInt64}, api.ErrRange},
		{"X alone wraps around", api.Line{X: math.MinInt64, Y: 1, K: 4}, api.ErrRange},
		{"Y alone wraps around", api.Line{X: 1, Y: math.MinInt64, K: 4}, api.ErrRange},
		{"K alone wraps around", api.Line{X: 1, Y: 1, K: math.MinInt64}, api.ErrRange},
	} {
		checkErr(t, x.what, plane.CheckPart(a, b, x.l), x.want)
	}
	checkErr(t, "hulls that meet", plane.CheckPart(a, a, api.Line{X: 1, Y: 1, K: 4}), api.ErrSum)
	d := &dice{13}
	for range 3000 {
		a, b := d.hull(t, 4, 3), d.hull(t, 4, 3)
		l := api.Line{X: d.roll(-2, 2), Y: d.roll(-2, 2), K: d.roll(-6, 6)}
		want := api.ErrSum
		if parts(a, b, l) {
			want = api.OK
		}
		checkErr(t, "a line by chance", plane.CheckPart(a, b, l), want)
	}
}

// P1.12
func TestMeetingAndLines(t *testing.T) {
	d := &dice{14}
	for round := range 2000 {
		most := []int64{4, 60, far}[round%3]
		a, b := d.hull(t, 7, most), d.hull(t, 7, most)
		met := meet(t, a, b)
		_, e := plane.Part(a, b)
		if met != (e == api.ErrNone) || met != (gap(t, a, b) == 0) {
			t.Errorf("Meet of %v and %v: %v, but Part %d and Gap %d", a, b, met, e, gap(t, a, b))
		}
		if met != meet(t, b, a) || gap(t, a, b) != gap(t, b, a) {
			t.Errorf("%v and %v are not the same if they are exchanged", a, b)
		}
		for range 20 {
			l := api.Line{X: d.roll(-4, 4), Y: d.roll(-4, 4), K: d.roll(-8*most, 8*most)}
			if met && plane.CheckPart(a, b, l) == api.OK {
				t.Errorf("%v and %v meet, but %v parts them", a, b, l)
			}
		}
	}
}

// P1.13: hulls meet just from the gap on.
func TestGrownByLessThanTheGap(t *testing.T) {
	d := &dice{15}
	for round := range 500 {
		most := []int64{6, 60, far / 8}[round%3]
		a, b := d.hull(t, 6, most), moved(d.hull(t, 6, most), d.point(most))
		n := gap(t, a, b)
		for _, by := range []int64{0, n / 2, n - 1, n, n + 1, n + most} {
			if by < 0 {
				continue
			}
			g, e := plane.Grow(a, by)
			if e != api.OK || meet(t, g, b) != (by >= n) {
				t.Errorf("%v, grown by %d, and %v, with the gap %d: %d", a, by, b, n, e)
			}
		}
	}
}

// P1.13: a hull that is moved changes the gap by no more.
func TestGapOfMovedHulls(t *testing.T) {
	d := &dice{16}
	for round := range 1500 {
		most := []int64{6, 60, far / 4}[round%3]
		a, b := d.hull(t, 6, most), d.hull(t, 6, most)
		by := d.roll(0, most)
		n := gap(t, a, b)
		if m := gap(t, moved(a, d.point(by)), b); amount(m-n) > by {
			t.Errorf("%v, moved by %d, and %v: from %d to %d", a, by, b, n, m)
		}
		if m := gap(t, a, moved(b, d.point(by))); amount(m-n) > by {
			t.Errorf("%v and %v, moved by %d: from %d to %d", a, b, by, n, m)
		}
	}
}
