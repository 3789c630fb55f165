package plane_test

import (
	"testing"

	"gooseneck/api"
	"gooseneck/plane"
)

// P1.2
func TestCheck(t *testing.T) {
	for _, p := range pts(0, 0, far, far, -far, far, far, -far, -far, -far, 3, -7) {
		checkErr(t, "Check of a valid point", plane.Check(p), api.OK)
	}
	for _, p := range beyondPlace {
		checkErr(t, "Check of a point beyond the place", plane.Check(p), api.ErrArg)
	}
}

// P1.2
func TestTurn(t *testing.T) {
	for _, x := range []struct {
		l    []api.Point
		want int
	}{
		{pts(0, 0, 2, 0, 1, 1), 1}, {pts(0, 0, 1, 1, 2, 2), 0}, {pts(0, 0, 2, 0, 1, -1), -1},
		{pts(5, 5, 5, 5, 9, 1), 0}, {pts(5, 5, 9, 1, 5, 5), 0}, {pts(9, 1, 5, 5, 5, 5), 0}, {pts(2, 2, 0, 0, 1, 1), 0},
		{pts(-far, -far, far, far, far, far-1), -1}, {pts(-far, -far, far, far, far-1, far), 1},
		{pts(-far, -far, far, far, 0, 0), 0}, {pts(far, -far, -far, far, -far, -far), 1},
		{pts(-far, far, far, far-1, 0, far), 1}, {pts(-far, far, far, far-1, far-1, far-1), -1},
	} {
		n, e := plane.Turn(x.l[0], x.l[1], x.l[2])
		if n != x.want || e != api.OK {
			t.Errorf("Turn of %v: %d, %d, want %d", x.l, n, e, x.want)
		}
	}
	d := &dice{3}
	for range 1000 {
		l := d.points(3, 1<<d.roll(1, 24))
		n, e := plane.Turn(l[0], l[1], l[2])
		if n != turnOf(l[0], l[1], l[2]) || e != api.OK {
			t.Errorf("Turn of %v: %d, %d", l, n, e)
		}
	}
}

// P1.2
func TestDistance(t *testing.T) {
	for _, x := range []struct {
		a, b api.Point
		want int64
	}{
		{pt(0, 0), pt(30, 40), 50}, {pt(30, 40), pt(0, 0), 50}, {pt(7, -7), pt(7, -7), 0}, {pt(0, 0), pt(1, 1), 1},
		{pt(-1, -1), pt(1, 1), 2}, {pt(0, 0), pt(0, -9), 9}, {pt(-far, -far), pt(far, far), 47453132},
		{pt(far, 0), pt(-far, 0), 2 * far},
	} {
		n, e := plane.Distance(x.a, x.b)
		checkNumber(t, "Distance", n, e, x.want, api.OK)
	}
}

// P1.2: each point is looked at.
func TestPointErrors(t *testing.T) {
	a, b := pt(1, 2), pt(3, 4)
	for _, p := range beyondPlace {
		for _, l := range [][]api.Point{{p, a, b}, {a, p, b}, {a, b, p}} {
			n, e := plane.Turn(l[0], l[1], l[2])
			checkNumber(t, "Turn", int64(n), e, 0, api.ErrArg)
		}
		n, e := plane.Distance(p, a)
		checkNumber(t, "Distance from it", n, e, 0, api.ErrArg)
		n, e = plane.Distance(a, p)
		checkNumber(t, "Distance to it", n, e, 0, api.ErrArg)
	}
}
