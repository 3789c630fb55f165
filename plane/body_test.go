package plane_test

import (
	"math"
	"testing"

	"gooseneck/api"
	"gooseneck/plane"
)

// P1.10
func TestPlace(t *testing.T) {
	for _, x := range []struct {
		what        string
		axle, hitch api.Point
		x, y        int64
		want        api.Point
	}{
		{"ahead", pt(0, 0), pt(300, 400), 10, 0, pt(6, 8)},
		{"to the left", pt(0, 0), pt(300, 400), 0, 10, pt(-8, 6)},
		{"to the right", pt(0, 0), pt(300, 400), 0, -10, pt(8, -6)},
		{"behind", pt(0, 0), pt(300, 400), -10, 0, pt(-6, -8)},
		{"both", pt(100, 50), pt(400, 450), 20, 5, pt(108, 69)},
		{"the axle", pt(7, 8), pt(9, 10), 0, 0, pt(7, 8)},
		{"the hitch", pt(7, 8), pt(37, 48), 50, 0, pt(37, 48)},
		{"along X", pt(7, 8), pt(9, 8), 1000, 5, pt(1007, 13)},
		{"along Y", pt(7, 8), pt(7, 9), 1000, 5, pt(2, 1008)},
		{"a length that is measured more finely", pt(0, 0), pt(1, 1), 1000, 0, pt(711, 711)},
		{"nearest", pt(0, 0), pt(3, 4), 1, 0, pt(1, 1)},
		{"a half below 0", pt(0, 0), pt(2, 0), -1, 0, pt(-1, 0)},
		{"nearest below 0", pt(0, 0), pt(-3, -4), 1, 0, pt(-1, -1)},
		{"the greatest x", pt(0, 0), pt(1, 0), far, 0, pt(far, 0)},
		{"the least x", pt(0, 0), pt(1, 0), -far, 0, pt(-far, 0)},
		{"the greatest y", pt(0, 0), pt(1, 0), 0, far, pt(0, far)},
		{"the least y", pt(0, 0), pt(1, 0), 0, -far, pt(0, -far)},
		{"the longest body", pt(-far, -far), pt(far, far), far, 0, pt(-4913933, -4913933)},
	} {
		p, e := plane.Place(x.axle, x.hitch, x.x, x.y)
		checkPoint(t, x.what, p, e, x.want, api.OK)
	}
}

// P1.10
func TestPlaceAndPullByChance(t *testing.T) {
	d := &dice{30}
	for round := range 2000 {
		most := []int64{2, 100, 1 << 17, far}[round%4]
		a, h, x, y := d.point(most), d.point(most), d.roll(-most, most), d.roll(-most, most)
		if a == h {
			continue
		}
		p, e := plane.Place(a, h, x, y)
		want, wantErr := over(placeOf(a, h, x, y))
		checkPoint(t, "Place by chance", p, e, want, wantErr)
		l := d.roll(1, most)
		p, e = plane.Pull(h, a, l)
		want, wantErr = over(placeOf(h, a, l, 0))
		checkPoint(t, "Pull by chance", p, e, want, wantErr)
	}
}

// over returns a point, or ErrOver if it is beyond the place.
func over(p api.Point) (api.Point, api.Errno) {
	if amount(p.X) > far || amount(p.Y) > far {
		return api.Point{}, api.ErrOver
	}
	return p, api.OK
}

// P1.10
func TestPull(t *testing.T) {
	for _, x := range []struct {
		what        string
		hitch, axle api.Point
		length      int64
		want        api.Point
	}{
		{"the example", pt(0, 0), pt(600, 800), 500, pt(300, 400)},
		{"pushed", pt(0, 0), pt(300, 400), 1000, pt(600, 800)},
		{"not moved", pt(10, 20), pt(310, 420), 500, pt(310, 420)},
		{"to the back", pt(10, 20), pt(9, 20), 500, pt(-490, 20)},
		{"the least length", pt(0, 0), pt(5, 0), 1, pt(1, 0)},
		{"the greatest length", pt(-far, 0), pt(5, 0), far, pt(0, 0)},
		{"nearest", pt(0, 0), pt(-3, 4), 1, pt(-1, 1)},
	} {
		p, e := plane.Pull(x.hitch, x.axle, x.length)
		checkPoint(t, x.what, p, e, x.want, api.OK)
	}
}

// P1.10: points that are not valid come first, then lengths, then a body without a size, then a result beyond the place.
func TestPlaceErrors(t *testing.T) {
	o, a := pt(0, 0), pt(3, 4)
	for _, x := range []struct {
		what        string
		axle, hitch api.Point
		x, y        int64
		want        api.Errno
	}{
		{"x too great", o, a, far + 1, 0, api.ErrRange},
		{"x too low", o, a, -far - 1, 0, api.ErrRange},
		{"y too great", o, a, 0, far + 1, api.ErrRange},
		{"y too low", o, a, 0, -far - 1, api.ErrRange},
		{"the least x", o, a, math.MinInt64, 0, api.ErrRange},
		{"the least y", o, a, 0, math.MinInt64, api.ErrRange},
		{"the greatest x", o, a, math.MaxInt64, 0, api.ErrRange},
		{"the greatest y", o, a, 0, math.MaxInt64, api.ErrRange},
		{"the same point", a, a, 1, 1, api.ErrZero},
		{"the same point, the greatest x", a, a, far, far, api.ErrZero},
		{"the same point, x too great", a, a, far + 1, 0, api.ErrRange},
		{"the same point, y too great", a, a, 0, far + 1, api.ErrRange},
		{"the same point, not valid", pt(far+1, 0), pt(far+1, 0), far + 1, 0, api.ErrArg},
		{"beyond X", pt(far, 0), pt(far-1, 0), -1, 0, api.ErrOver},
		{"beyond -X", pt(-far, 0), pt(-far+1, 0), -1, 0, api.ErrOver},
		{"beyond Y", pt(0, far), pt(1, far), 0, 1, api.ErrOver},
		{"beyond -Y", pt(0, -far), pt(1, -far), 0, -1, api.ErrOver},
	} {
		p, e := plane.Place(x.axle, x.hitch, x.x, x.y)
		checkPoint(t, x.what, p, e, api.Point{}, x.want)
	}
	for _, bad := range beyondPlace {
		p, e := plane.Place(bad, o, far+1, 0)
		checkPoint(t, "an axle beyond", p, e, api.Point{}, api.ErrArg)
		p, e = plane.Place(o, bad, far+1, 0)
		checkPoint(t, "a hitch beyond", p, e, api.Point{}, api.ErrArg)
	}
}

// P1.10
func TestPullErrors(t *testing.T) {
	o, a := pt(0, 0), pt(3, 4)
	for _, x := range []struct {
		what        string
		hitch, axle api.Point
		length      int64
		want        api.Errno
	}{
		{"no length", o, a, 0, api.ErrRange},
		{"a length below 0", o, a, -1, api.ErrRange},
		{"a length too great", o, a, far + 1, api.ErrRange},
		{"the least length", o, a, math.MinInt64, api.ErrRange},
		{"the greatest length", o, a, math.MaxInt64, api.ErrRange},
		{"the same point", a, a, 5, api.ErrZero},
		{"the same point, no length", a, a, 0, api.ErrRange},
		{"the same point, a length too great", a, a, far + 1, api.ErrRange},
		{"beyond X", pt(far-4, 0), pt(far, 0), 5, api.ErrOver},
		{"beyond -Y", pt(0, 4-far), pt(0, -far), 5, api.ErrOver},
	} {
		p, e := plane.Pull(x.hitch, x.axle, x.length)
		checkPoint(t, x.what, p, e, api.Point{}, x.want)
	}
	for _, bad := range beyondPlace {
		p, e := plane.Pull(bad, o, 0)
		checkPoint(t, "a hitch beyond", p, e, api.Point{}, api.ErrArg)
		p, e = plane.Pull(o, bad, 0)
		checkPoint(t, "an axle beyond", p, e, api.Point{}, api.ErrArg)
	}
}

// P1.16
func TestPulledAxleKeepsTheLength(t *testing.T) {
	d := &dice{31}
	for round := range 4000 {
		most := []int64{3, 40, 900, 1 << 16, far / 4}[round%5]
		h, a := d.point(most), d.point(most)
		l := d.roll(1, min(far/4, 16*most))
		if h == a || distance(t, h, a)*16 < l {
			continue
		}
		p, e := plane.Pull(h, a, l)
		if e != api.OK || amount(distance(t, p, h)-l) > 2 {
			t.Errorf("%v pulled to %v by %d: %v, %d", a, h, l, p, e)
			continue
		}
		if l < 100 {
			continue
		}
		q, e := plane.Pull(h, p, l)
		if e != api.OK || !within(p, q, 2) {
			t.Errorf("%v pulled again to %v by %d: from %v to %v, %d", a, h, l, p, q, e)
		}
	}
}
