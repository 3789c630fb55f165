package plane_test

import (
	"slices"
	"testing"

	"gooseneck/api"
	"gooseneck/plane"
)

// hullCases are points with their hull.
var hullCases = []struct {
	what       string
	l, corners []api.Point
}{
	{"the example", pts(2, 2, 0, 0, 4, 0, 2, 1, 2, 0), pts(0, 0, 4, 0, 2, 2)},
	{"points on a line", pts(1, 1, 3, 3, 2, 2), pts(1, 1, 3, 3)},
	{"points on a line down", pts(2, 2, 1, 3, 3, 1), pts(1, 3, 3, 1)},
	{"points on a line along X", pts(5, 4, -1, 4, 2, 4), pts(-1, 4, 5, 4)},
	{"points on a line along Y", pts(4, 5, 4, -1, 4, 2), pts(4, -1, 4, 5)},
	{"one point", pts(7, -7), pts(7, -7)},
	{"one point again", pts(7, -7, 7, -7, 7, -7), pts(7, -7)},
	{"two points", pts(3, 1, 1, 3), pts(1, 3, 3, 1)},
	{"two points again", pts(3, 1, 1, 3, 3, 1, 1, 3), pts(1, 3, 3, 1)},
	{"a square with points on its sides", pts(0, 0, 1, 0, 2, 0, 2, 1, 2, 2, 1, 2, 0, 2, 0, 1), pts(0, 0, 2, 0, 2, 2, 0, 2)},
	{"a square clockwise", pts(0, 2, 2, 2, 2, 0, 0, 0), pts(0, 0, 2, 0, 2, 2, 0, 2)},
	{"a first side on the left", pts(0, 5, 0, -5, 1, 0), pts(0, -5, 1, 0, 0, 5)},
	{"the corners of the place", pts(far, far, -far, -far, -far, far, far, -far, 0, 0), pts(-far, -far, far, -far, far, far, -far, far)},
	{"a side that is almost straight", pts(-far, -far, far, far, 0, -1, 0, 0), pts(-far, -far, 0, -1, far, far)},
	{"as many as there may be", slices.Concat(bow(255), pts(1, 3)), bow(255)},
}

// P1.3
func TestHull(t *testing.T) {
	for _, x := range hullCases {
		h, e := plane.Hull(x.l)
		checkSame(t, x.what, h, x.corners)
		checkErr(t, x.what, e, api.OK)
	}
	if h, e := plane.Hull(wheel()); e != api.OK || !slices.Equal(h, wheel()) {
		t.Errorf("Hull of 256 corners: %v, %d", h, e)
	}
}

// P1.3
func TestHullByChance(t *testing.T) {
	d := &dice{4}
	for range 400 {
		l := d.points(int(d.roll(1, 9)), d.roll(1, 6))
		h, e := plane.Hull(l)
		checkSame(t, "Hull", h, hullOf(l))
		checkErr(t, "Hull", e, api.OK)
	}
	for range 50 {
		l := d.points(8, far)
		h, e := plane.Hull(l)
		checkSame(t, "Hull", h, hullOf(l))
		checkErr(t, "Hull", e, api.OK)
	}
}

// P1.3: too many points come ahead of those that are not valid, and these ahead of none.
func TestHullErrors(t *testing.T) {
	for _, x := range []struct {
		what string
		l    []api.Point
		want api.Errno
	}{
		{"nil", nil, api.ErrNone},
		{"empty", pts(), api.ErrNone},
		{"too many", bow(257), api.ErrMany},
		{"too many of one", slices.Repeat(pts(1, 1), 257), api.ErrMany},
		{"too many, one not valid", append(bow(256), pt(far+1, 0)), api.ErrMany},
		{"not valid", pts(0, 0, 1, 1, far+1, 0), api.ErrArg},
		{"not valid first", pts(0, -far-1, 0, 0), api.ErrArg},
	} {
		h, e := plane.Hull(x.l)
		checkErr(t, x.what, e, x.want)
		if len(h) != 0 {
			t.Errorf("%s: %v with an error", x.what, h)
		}
	}
}

// noHulls are lists that are no hulls.
var noHulls = []struct {
	what string
	l    []api.Point
}{
	{"nil", nil},
	{"empty", pts()},
	{"clockwise", pts(0, 0, 2, 2, 4, 0)},
	{"the wrong corner first", pts(4, 0, 2, 2, 0, 0)},
	{"the last corner first", pts(2, 2, 0, 0, 4, 0)},
	{"of the least X the greatest Y first", pts(0, 2, 0, 0, 2, 0)},
	{"two the wrong way round", pts(3, 3, 1, 1)},
	{"two along Y the wrong way round", pts(3, 3, 3, 1)},
	{"the same twice", pts(1, 1, 1, 1)},
	{"a corner twice", pts(0, 0, 4, 0, 4, 0, 2, 2)},
	{"the first corner again", pts(0, 0, 4, 0, 2, 2, 0, 0)},
	{"three on a line", pts(0, 0, 1, 1, 2, 2)},
	{"three on a line along Y", pts(0, 0, 0, 1, 0, 2)},
	{"a corner on a side", pts(0, 0, 2, 0, 4, 0, 2, 2)},
	{"a corner on the last side", pts(0, 0, 4, 0, 2, 2, 1, 1)},
	{"a corner on the side before the last", pts(0, 0, 4, 0, 3, 1, 2, 2)},
	{"a corner that goes in", pts(0, 0, 4, 0, 2, 1, 2, 4)},
	{"a last corner that goes in", pts(0, 0, 4, 0, 4, 4, 2, 1)},
	{"a point inside", pts(0, 0, 4, 0, 2, 2, 2, 1)},
	{"twice around", pts(0, 0, 4, 0, 2, 2, 0, 0, 4, 0, 2, 2)},
	{"a star, which turns to the left only", pts(-10, 3, 10, 3, -6, -8, 0, 10, 6, -8)},
	{"a square crossed", pts(0, 0, 4, 4, 4, 0, 0, 4)},
	{"not valid", pts(far+1, 0)},
	{"not valid with others", pts(0, 0, far+1, 0, 0, 5)},
	{"too many", bow(257)},
}

// P1.3
func TestIsHull(t *testing.T) {
	for _, x := range hullCases {
		if !plane.IsHull(x.corners) {
			t.Errorf("IsHull of %s: false", x.what)
		}
	}
	for _, l := range [][]api.Point{bow(256), wheel(), pts(far, -far), pts(-far, far, far, far)} {
		if !plane.IsHull(l) {
			t.Errorf("IsHull of %v: false", l)
		}
	}
	for _, x := range noHulls {
		if plane.IsHull(x.l) {
			t.Errorf("IsHull of %s: true", x.what)
		}
	}
}

// P1.3: a list is a hull just if it is the hull of its points.
func TestIsHullByChance(t *testing.T) {
	d := &dice{5}
	for range 3000 {
		l := d.points(int(d.roll(1, 5)), 2)
		if is := slices.Equal(l, hullOf(l)); plane.IsHull(l) != is {
			t.Errorf("IsHull of %v: %v", l, !is)
		}
	}
}

// P1.3: of all orders of the corners, just one is a hull; this one begins with the corner that begins the order.
func TestIsHullOfAnyOrder(t *testing.T) {
	var try func(l []api.Point, n int, h []api.Point)
	try = func(l []api.Point, n int, h []api.Point) {
		if n == len(l) && plane.IsHull(l) != slices.Equal(l, h) {
			t.Errorf("IsHull of %v: %v", l, plane.IsHull(l))
		}
		for i := n; i < len(l); i++ {
			l[n], l[i] = l[i], l[n]
			try(l, n+1, h)
			l[n], l[i] = l[i], l[n]
		}
	}
	for _, h := range [][]api.Point{bow(6), bow(7), pts(-10, 3, -6, -8, 6, -8, 10, 3, 0, 10), pts(0, 0, 1, -1, 2, -1, 3, 0, 3, 1, 0, 1)} {
		try(slices.Clone(h), 0, h)
	}
}

// P1.4, P1.5, P1.6: whoever needs a hull refuses what is none, and a list that is too long ahead of all others.
func TestHullArguments(t *testing.T) {
	good, bad, long := pts(0, 0, 4, 0, 2, 2), pts(4, 0, 0, 0, 2, 2), append(bow(256), pt(far+1, 0))
	calls := map[string]func(a, b []api.Point) api.Errno{
		"Meet":      func(a, b []api.Point) api.Errno { _, e := plane.Meet(a, b); return e },
		"Gap":       func(a, b []api.Point) api.Errno { _, e := plane.Gap(a, b); return e },
		"Part":      func(a, b []api.Point) api.Errno { _, e := plane.Part(a, b); return e },
		"CheckPart": func(a, b []api.Point) api.Errno { return plane.CheckPart(a, b, api.Line{X: 1 << 27}) },
	}
	for what, call := range calls {
		for _, x := range noHulls {
			if len(x.l) <= api.MaxPoints {
				checkErr(t, what+" of "+x.what+" first", call(x.l, good), api.ErrArg)
				checkErr(t, what+" of "+x.what+" second", call(good, x.l), api.ErrArg)
			}
		}
		checkErr(t, what+" of too many first", call(long, bad), api.ErrMany)
		checkErr(t, what+" of too many second", call(bad, long), api.ErrMany)
		checkErr(t, what+" of too many behind none", call(nil, long), api.ErrMany)
	}
	for _, x := range append(noHulls, noHulls[0]) {
		want := api.ErrArg
		if len(x.l) > api.MaxPoints {
			want = api.ErrMany
		}
		in, e := plane.Inside(x.l, pt(2, 1))
		if in || e != want {
			t.Errorf("Inside of %s: %v, %d", x.what, in, e)
		}
		n, e := plane.Area(x.l)
		checkNumber(t, "Area of "+x.what, n, e, 0, want)
		g, e := plane.Grow(x.l, -1)
		checkErr(t, "Grow of "+x.what, e, want)
		checkSame(t, "Grow of "+x.what, g, nil)
	}
	_, e := plane.Inside(long, pt(far+1, 0))
	checkErr(t, "Inside of too many with a point that is not valid", e, api.ErrMany)
}

// P1.4
func TestInside(t *testing.T) {
	triangle := pts(0, 0, 4, 0, 2, 2)
	for _, x := range []struct {
		what string
		h    []api.Point
		p    api.Point
		want bool
	}{
		{"on a side", triangle, pt(2, 0), true},
		{"outside", triangle, pt(3, 2), false},
		{"a corner", triangle, pt(2, 2), true},
		{"the first corner", triangle, pt(0, 0), true},
		{"on the last side", triangle, pt(1, 1), true},
		{"on the second side", triangle, pt(3, 1), true},
		{"within", triangle, pt(2, 1), true},
		{"below", triangle, pt(2, -1), false},
		{"on the line of a side", triangle, pt(5, 0), false},
		{"on the line of the last side", triangle, pt(3, 3), false},
		{"one beside a side", triangle, pt(1, 2), false},
		{"one corner, the same", pts(3, 3), pt(3, 3), true},
		{"one corner, beside", pts(3, 3), pt(3, 4), false},
		{"one corner, ahead", pts(3, 3), pt(4, 3), false},
		{"two corners, an end", pts(1, 1, 5, 3), pt(5, 3), true},
		{"two corners, between", pts(1, 1, 5, 3), pt(3, 2), true},
		{"two corners, beside", pts(1, 1, 5, 3), pt(3, 3), false},
		{"two corners, to the other side", pts(1, 1, 5, 3), pt(3, 1), false},
		{"two corners, behind", pts(1, 1, 5, 3), pt(7, 4), false},
		{"two corners, before", pts(1, 1, 5, 3), pt(-1, 0), false},
		{"two corners along X, behind", pts(1, 1, 5, 1), pt(6, 1), false},
		{"two corners along Y, behind", pts(1, 1, 1, 5), pt(1, 6), false},
		{"two corners along Y, between", pts(1, 1, 1, 5), pt(1, 3), true},
		{"far, on the border", pts(-far, -far, far, far-1, far, far), pt(far, far), true},
		{"far, one beside", pts(-far, -far, far, far-1, far, far), pt(far-1, far), false},
	} {
		in, e := plane.Inside(x.h, x.p)
		if in != x.want || e != api.OK {
			t.Errorf("%s: %v, %d", x.what, in, e)
		}
	}
	for _, p := range beyondPlace {
		in, e := plane.Inside(triangle, p)
		if in || e != api.ErrArg {
			t.Errorf("Inside of %v: %v, %d", p, in, e)
		}
	}
}

// P1.4
func TestInsideByChance(t *testing.T) {
	d := &dice{6}
	for range 2000 {
		h := d.hull(t, 6, 5)
		p := d.point(6)
		if want := covers(h, p); inside(t, h, p) != want {
			t.Errorf("Inside of %v and %v: %v", h, p, !want)
		}
	}
}

// P1.4
func TestArea(t *testing.T) {
	for _, x := range []struct {
		h    []api.Point
		want int64
	}{
		{pts(0, 0, 4, 0, 2, 2), 8}, {pts(5, 5), 0}, {pts(1, 1, 9, 4), 0}, {pts(1, 1, 2, 1, 1, 2), 1},
		{pts(-3, -3, 3, -3, 3, 3, -3, 3), 72}, {pts(far-1, far-1, far, far-1, far-1, far), 1},
		{pts(-far, -far, far, -far, far, far, -far, far), 1 << 51},
	} {
		n, e := plane.Area(x.h)
		checkNumber(t, "Area", n, e, x.want, api.OK)
	}
	d := &dice{7}
	for range 200 {
		h := d.hull(t, 12, far)
		var want int64
		for i := 1; i+1 < len(h); i++ {
			u, v := pt(h[i].X-h[0].X, h[i].Y-h[0].Y), pt(h[i+1].X-h[0].X, h[i+1].Y-h[0].Y)
			want += u.X*v.Y - u.Y*v.X
		}
		n, e := plane.Area(h)
		checkNumber(t, "Area", n, e, want, api.OK)
	}
}

// P1.11: each point is inside; each corner is a point, and outside without itself.
func TestHullIsLeast(t *testing.T) {
	d := &dice{8}
	for round := range 300 {
		l := d.points(int(d.roll(1, 12)), []int64{3, 50, far}[round%3])
		h, e := plane.Hull(l)
		checkErr(t, "Hull", e, api.OK)
		if !plane.IsHull(h) {
			t.Fatalf("Hull of %v is no hull: %v", l, h)
		}
		for _, p := range l {
			if !inside(t, h, p) {
				t.Errorf("%v is outside of the hull of %v", p, l)
			}
		}
		for i, p := range h {
			if !slices.Contains(l, p) {
				t.Errorf("the corner %v is none of %v", p, l)
			}
			if len(h) == 1 {
				continue
			}
			less, e := plane.Hull(slices.Delete(slices.Clone(h), i, i+1))
			if e != api.OK || inside(t, less, p) {
				t.Errorf("the corner %v of %v can be left out: %d", p, h, e)
			}
		}
	}
}

// P1.11: the hull depends neither on the order of the points nor on how often one is there.
func TestHullOfAnyOrder(t *testing.T) {
	d := &dice{9}
	for range 300 {
		l := d.points(int(d.roll(1, 12)), 6)
		h, _ := plane.Hull(l)
		for range 5 {
			mixed := slices.Clone(l)
			for range d.roll(0, 5) {
				mixed = append(mixed, l[d.roll(0, int64(len(l))-1)])
			}
			for i := range mixed {
				j := d.roll(0, int64(i))
				mixed[i], mixed[j] = mixed[j], mixed[i]
			}
			again, e := plane.Hull(mixed)
			checkErr(t, "Hull", e, api.OK)
			checkSame(t, "Hull in another order", again, h)
		}
	}
}
