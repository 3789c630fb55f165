package plane_test

import (
	"math"
	"math/big"
	"testing"

	"gooseneck/api"
	"gooseneck/plane"
)

func rot(c, s, n int64) api.Rot { return api.Rot{C: c, S: s, N: n} }

// noRots are turns that are not valid; the squares of some of them wrap around to the sum that is asked for.
var noRots = []api.Rot{
	{}, rot(0, 0, 1), rot(1, 1, 1), rot(3, 4, 6), rot(3, 4, -5), rot(-5, 0, -5), rot(5, 0, -5), rot(0, 0, 0),
	rot(far+1, 0, far+1), rot(0, far+1, far+1), rot(1<<25, 0, 1<<25), rot(3, 5, 5), rot(4, 4, 5),
	rot(1<<32, 5, 5), rot(5, 1<<32, 5), rot(-1<<32, 5, 5), rot(5, -1<<32, 5), rot(1<<32, 1<<32+5, 5),
	rot(math.MinInt64, 5, 5), rot(5, math.MinInt64, 5), rot(0, 0, 1<<32), rot(1, 0, math.MaxInt64), rot(0, 1, math.MinInt64),
}

// P1.8
func TestCheckRot(t *testing.T) {
	for _, r := range []api.Rot{
		rot(1, 0, 1), rot(-1, 0, 1), rot(0, 1, 1), rot(0, -1, 1), rot(3, 4, 5), rot(-3, 4, 5), rot(3, -4, 5), rot(-3, -4, 5),
		rot(6, 8, 10), rot(5, 12, 13), rot(far, 0, far), rot(0, -far, far), rot(far-1, 0, far-1),
	} {
		checkErr(t, "CheckRot of a valid turn", plane.CheckRot(r), api.OK)
	}
	for _, r := range noRots {
		if e := plane.CheckRot(r); e != api.ErrArg {
			t.Errorf("CheckRot of %v: %d", r, e)
		}
	}
}

// P1.8
func TestHalf(t *testing.T) {
	for _, x := range []struct {
		n, d int64
		want api.Rot
	}{
		{1, 2, rot(3, 4, 5)}, {-1, 2, rot(3, -4, 5)}, {0, 1, rot(1, 0, 1)}, {1, 1, rot(0, 2, 2)}, {-1, 1, rot(0, -2, 2)},
		{2, 1, rot(-3, 4, 5)}, {2, 4, rot(12, 16, 20)}, {0, 2048, rot(1<<22, 0, 1<<22)},
		{2048, 2048, rot(0, 1<<23, 1<<23)}, {-2048, 2048, rot(0, -1<<23, 1<<23)}, {2048, 1, rot(1-1<<22, 4096, 1<<22+1)},
		{-2048, 1, rot(1-1<<22, -4096, 1<<22+1)}, {1, 2048, rot(1<<22-1, 4096, 1<<22+1)},
	} {
		r, e := plane.Half(x.n, x.d)
		if r != x.want || e != api.OK {
			t.Errorf("Half of %d and %d: %v, %d", x.n, x.d, r, e)
		}
	}
	for _, x := range [][2]int64{
		{1, 0}, {1, -1}, {0, 0}, {1, 2049}, {2049, 1}, {-2049, 1}, {math.MinInt64, 1}, {math.MaxInt64, 1},
		{1, math.MinInt64}, {1, math.MaxInt64}, {2049, 0}, {1 << 32, 1},
	} {
		r, e := plane.Half(x[0], x[1])
		if r != (api.Rot{}) || e != api.ErrArg {
			t.Errorf("Half of %v: %v, %d", x, r, e)
		}
	}
}

// P1.8
func TestBoth(t *testing.T) {
	for _, x := range []struct {
		a, b, want api.Rot
	}{
		{rot(3, 4, 5), rot(3, 4, 5), rot(-7, 24, 25)},
		{rot(3, 4, 5), rot(3, -4, 5), rot(1, 0, 1)},
		{rot(3, 4, 5), rot(1, 0, 1), rot(3, 4, 5)},
		{rot(6, 8, 10), rot(1, 0, 1), rot(3, 4, 5)},
		{rot(1, 0, 1), rot(30, 40, 50), rot(3, 4, 5)},
		{rot(0, 2, 2), rot(0, 7, 7), rot(-1, 0, 1)},
		{rot(0, 1, 1), rot(-1, 0, 1), rot(0, -1, 1)},
		{rot(0, 1, 1), rot(3, 4, 5), rot(-4, 3, 5)},
		{rot(3, 4, 5), rot(5, 12, 13), rot(-33, 56, 65)},
		{rot(5, 12, 13), rot(3, 4, 5), rot(-33, 56, 65)},
		{rot(far, 0, far), rot(0, far, far), rot(0, 1, 1)},
		{rot(far, 0, far), rot(far, 0, far), rot(1, 0, 1)},
		{rot(0, -far, far), rot(0, -far, far), rot(-1, 0, 1)},
	} {
		r, e := plane.Both(x.a, x.b)
		if r != x.want || e != api.OK {
			t.Errorf("Both of %v and %v: %v, %d", x.a, x.b, r, e)
		}
	}
}

// P1.8: N is the power of 5 as long as it is not beyond the limit.
func TestBothUpToTheLimit(t *testing.T) {
	r, n := rot(1, 0, 1), int64(1)
	for n*5 <= api.MaxTurn {
		var e api.Errno
		r, e = plane.Both(r, rot(3, 4, 5))
		n *= 5
		if r.N != n || e != api.OK {
			t.Fatalf("N %d, want %d: error %d", r.N, n, e)
		}
	}
	over, e := plane.Both(r, rot(3, 4, 5))
	if over != (api.Rot{}) || e != api.ErrOver {
		t.Errorf("Both beyond the limit: %v, %d", over, e)
	}
	back, e := plane.Both(r, rot(3, -4, 5))
	if back.N != n/5 || e != api.OK {
		t.Errorf("Both back: %v, %d", back, e)
	}
	below, above := rot(2635, 3132, 4093), rot(4095, 128, 4097)
	if r, e := plane.Both(below, above); r.N != 4093*4097 || e != api.OK {
		t.Errorf("Both just below the limit: %v, %d", r, e)
	}
	if r, e := plane.Both(above, above); r != (api.Rot{}) || e != api.ErrOver {
		t.Errorf("Both just above the limit: %v, %d", r, e)
	}
}

// P1.8
func TestBothErrors(t *testing.T) {
	for _, bad := range noRots {
		for _, x := range [][2]api.Rot{{bad, rot(3, 4, 5)}, {rot(3, 4, 5), bad}, {bad, bad}} {
			r, e := plane.Both(x[0], x[1])
			if r != (api.Rot{}) || e != api.ErrArg {
				t.Errorf("Both of %v: %v, %d", x, r, e)
			}
		}
	}
}

// P1.9
func TestRotate(t *testing.T) {
	for _, x := range []struct {
		what     string
		p, about api.Point
		r        api.Rot
		want     api.Point
	}{
		{"the example", pt(10, 0), pt(0, 0), rot(3, 4, 5), pt(6, 8)},
		{"to the left", pt(10, 5), pt(3, 2), rot(0, 1, 1), pt(0, 9)},
		{"to the right", pt(10, 5), pt(3, 2), rot(0, -1, 1), pt(6, -5)},
		{"half a turn", pt(10, 5), pt(3, 2), rot(-7, 0, 7), pt(-4, -1)},
		{"not at all", pt(10, 5), pt(3, 2), rot(9, 0, 9), pt(10, 5)},
		{"the centre", pt(3, 2), pt(3, 2), rot(3, 4, 5), pt(3, 2)},
		{"nearest", pt(1, 0), pt(0, 0), rot(3, 4, 5), pt(1, 1)},
		{"nearest below 0", pt(-1, 0), pt(0, 0), rot(3, 4, 5), pt(-1, -1)},
		{"nearest to 0", pt(0, 1), pt(0, 0), rot(24, 7, 25), pt(0, 1)},
		{"a half", pt(5, 0), pt(0, 0), rot(6, 8, 10), pt(3, 4)},
		{"the way that is rounded, not the point", pt(4, 3), pt(5, 3), rot(3, 4, 5), pt(4, 2)},
		{"up to the border", pt(far, 0), pt(0, 0), rot(0, 1, 1), pt(0, far)},
		{"across the place", pt(far, far), pt(0, 0), rot(-1, 0, 1), pt(-far, -far)},
		{"about a border", pt(far, far), pt(far, -far), rot(0, far, far), pt(-far, -far)},
	} {
		p, e := plane.Rotate(x.p, x.about, x.r)
		checkPoint(t, x.what, p, e, x.want, api.OK)
	}
	d := &dice{22}
	for range 1000 {
		p, o, r := d.point(far), d.point(far), d.half(t)
		x, y := p.X-o.X, p.Y-o.Y
		n := big.NewInt(r.N)
		want := pt(o.X+nearestOf(sumOf(x, r.C, -y, r.S), n), o.Y+nearestOf(sumOf(x, r.S, y, r.C), n))
		wantErr := api.OK
		if amount(want.X) > far || amount(want.Y) > far {
			want, wantErr = api.Point{}, api.ErrOver
		}
		got, e := plane.Rotate(p, o, r)
		checkPoint(t, "Rotate by chance", got, e, want, wantErr)
	}
}

// P1.9: both kinds of ErrArg, and a result beyond the place.
func TestRotateErrors(t *testing.T) {
	for _, bad := range beyondPlace {
		p, e := plane.Rotate(bad, pt(0, 0), rot(1, 0, 1))
		checkPoint(t, "Rotate of a point beyond", p, e, api.Point{}, api.ErrArg)
		p, e = plane.Rotate(pt(0, 0), bad, rot(1, 0, 1))
		checkPoint(t, "Rotate about a point beyond", p, e, api.Point{}, api.ErrArg)
	}
	for _, r := range noRots {
		p, e := plane.Rotate(pt(far, far), pt(-far, far), r)
		checkPoint(t, "Rotate by what is no turn", p, e, api.Point{}, api.ErrArg)
	}
	for _, x := range []struct {
		what     string
		p, about api.Point
		r        api.Rot
	}{
		{"beyond X", pt(far-1, 0), pt(far, 0), rot(-1, 0, 1)},
		{"beyond -X", pt(far, 0), pt(-1, 0), rot(-3, 0, 3)},
		{"beyond Y", pt(far, 0), pt(0, 1), rot(0, 1, 1)},
		{"beyond -Y", pt(-far, 0), pt(0, -1), rot(0, 1, 1)},
		{"beyond a corner", pt(far, far), pt(0, 0), rot(3, 4, 5)},
	} {
		p, e := plane.Rotate(x.p, x.about, x.r)
		checkPoint(t, x.what, p, e, api.Point{}, api.ErrOver)
	}
}

// P1.15
func TestTurnsAreValid(t *testing.T) {
	d := &dice{23}
	for range 1000 {
		a, b := d.half(t), d.half(t)
		checkErr(t, "CheckRot of Half", plane.CheckRot(a), api.OK)
		r, e := plane.Both(a, b)
		if e == api.OK && plane.CheckRot(r) != api.OK || e != api.OK && e != api.ErrOver {
			t.Errorf("Both of %v and %v: %v, %d", a, b, r, e)
		}
	}
	for range 1000 {
		a, e := plane.Half(d.roll(-40, 40), d.roll(1, 40))
		b, f := plane.Half(d.roll(-40, 40), d.roll(1, 40))
		r, g := plane.Both(a, b)
		if e != api.OK || f != api.OK || g != api.OK || plane.CheckRot(r) != api.OK {
			t.Errorf("Both of %v and %v: %v, %d", a, b, r, g)
		}
	}
}

// P1.15
func TestTurnKeepsTheDistance(t *testing.T) {
	d := &dice{24}
	for round := range 3000 {
		most := []int64{3, 100, far / 2}[round%3]
		p, o, r := d.point(most), d.point(most/2), d.half(t)
		q, e := plane.Rotate(p, o, r)
		if e == api.ErrOver {
			continue
		}
		if e != api.OK || amount(distance(t, q, o)-distance(t, p, o)) > 2 {
			t.Errorf("%v about %v by %v: %v, %d", p, o, r, q, e)
		}
	}
}
