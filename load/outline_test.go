package load_test

import (
	"math"
	"slices"
	"testing"

	"gooseneck/api"
	"gooseneck/load"
)

// P2.3
func TestOutline(t *testing.T) {
	for _, x := range []struct {
		what string
		l    api.Load
		want []api.Point
	}{
		{"the example", example(), pts(0, 0, 2000, 0, 2000, 1000, 0, 1000)},
		{"one piece", of(block(-3, 5, 9, 2, 1, 4, 1)), pts(-3, 5, -1, 5, -1, 6, -3, 6)},
		{"a piece without mass counts", of(block(0, 0, 0, 1, 1, 1, 0), block(4, 2, 0, 1, 1, 1, 1)), pts(0, 0, 1, 0, 5, 2, 5, 3, 4, 3, 0, 1)},
		{"a cross", of(block(1, 0, 0, 1, 3, 1, 1), block(0, 1, 0, 3, 1, 1, 1)), pts(0, 1, 1, 0, 2, 0, 3, 1, 3, 2, 2, 3, 1, 3, 0, 2)},
		{"the greatest one", of(block(-side, -side, 0, 2*side, 2*side, side, 1)), pts(-side, -side, side, -side, side, side, -side, side)},
	} {
		got, e := load.Outline(x.l)
		checkList(t, x.what, got, e, x.want, api.OK)
		got, e = load.Above(x.l, math.MinInt64)
		checkList(t, x.what+", above the least number", got, e, x.want, api.OK)
		got, e = load.Above(x.l, math.MaxInt64)
		checkList(t, x.what+", above the greatest number", got, e, nil, api.ErrNone)
	}
}

// P2.3
func TestAbove(t *testing.T) {
	l := of(block(0, 0, 0, 10, 10, 10, 1), block(20, 0, 3, 10, 10, 20, 0), block(40, 0, 10, 10, 10, 1, 1))
	for _, x := range []struct {
		z    int64
		want []api.Point
		e    api.Errno
	}{
		{-1, pts(0, 0, 50, 0, 50, 10, 0, 10), api.OK},
		{9, pts(0, 0, 50, 0, 50, 10, 0, 10), api.OK},
		{10, pts(20, 0, 50, 0, 50, 10, 20, 10), api.OK},
		{11, pts(20, 0, 30, 0, 30, 10, 20, 10), api.OK},
		{22, pts(20, 0, 30, 0, 30, 10, 20, 10), api.OK},
		{23, nil, api.ErrNone},
	} {
		got, e := load.Above(l, x.z)
		checkList(t, "Above", got, e, x.want, x.e)
	}
	got, e := load.Above(example(), 1000)
	checkList(t, "Above 1000 of the example", got, e, pts(0, 0, 1000, 0, 1000, 1000, 0, 1000), api.OK)
}

// P2.3
func TestOutlineByChance(t *testing.T) {
	r := chance(3)
	for range 200 {
		l := anyLoad(r, from(r, 1, 32), from(r, 1, 40))
		z := from(r, -1, 40)
		var all, high []api.Point
		for _, p := range l.Pieces {
			four := pts(p.X, p.Y, p.X+p.L, p.Y, p.X, p.Y+p.W, p.X+p.L, p.Y+p.W)
			all = append(all, four...)
			if p.Z+p.H > z {
				high = append(high, four...)
			}
		}
		got, e := load.Outline(l)
		checkList(t, "Outline", got, e, hullOf(all), api.OK)
		if got, e = load.Above(l, z); len(high) == 0 {
			checkList(t, "Above", got, e, nil, api.ErrNone)
		} else {
			checkList(t, "Above", got, e, hullOf(high), api.OK)
		}
	}
}

// P2.13: the outline of a turned load is the turned outline, from its own first point on.
func TestOutlineTurned(t *testing.T) {
	r := chance(4)
	for range 100 {
		l := anyLoad(r, 6, 30)
		want := must[[]api.Point](t, "Outline")(load.Outline(l))
		for i, p := range want {
			want[i] = pt(-p.Y, p.X)
		}
		first := slices.Index(want, slices.MinFunc(want, comparePoints))
		want = slices.Concat(want[first:], want[:first])
		got, e := load.Outline(must[api.Load](t, "Turned")(load.Turned(l, 1)))
		checkList(t, "Outline turned", got, e, want, api.OK)
	}
}
