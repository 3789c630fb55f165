package statics_test

import (
	"math"
	"testing"

	"gooseneck/api"
	"gooseneck/statics"
)

// P4.4: the example, and what is nearest.
func TestFoot(t *testing.T) {
	for _, x := range []struct {
		what string
		c    [3]int64
		s, a api.Slope
		want api.Point
	}{
		{"the example", [3]int64{2000, 0, 1500}, slope(100, -50), slope(0, 0), pt(2150, -75)},
		{"an acceleration", [3]int64{2000, 0, 1500}, slope(0, 0), slope(100, -50), pt(2150, -75)},
		{"both, added up before they are rounded", [3]int64{0, 0, 500}, slope(1, -1), slope(2, -2), pt(2, -1)},
		{"a half is rounded up", [3]int64{7, 7, 500}, slope(1, -1), slope(0, 0), pt(8, 7)},
		{"less than a half", [3]int64{7, 7, 499}, slope(1, -1), slope(0, 0), pt(7, 7)},
		{"below the deck", [3]int64{7, 7, -500}, slope(3, -3), slope(0, 0), pt(6, 9)},
		{"no height", [3]int64{-7, 8, 0}, slope(1000, -1000), slope(1000, -1000), pt(-7, 8)},
		{"at all limits", [3]int64{side, -side, side}, slope(1000, -1000), slope(1000, -1000), pt(3*side, -3*side)},
		{"at the other limits", [3]int64{-side, side, -side}, slope(1000, -1000), slope(1000, -1000), pt(-3*side, 3*side)},
	} {
		got, e := statics.Foot(x.c, x.s, x.a)
		check(t, x.what, got, e, x.want, api.OK)
		got, e = statics.Blown(x.c, x.s, x.a, api.Slope{}, side, 1)
		check(t, x.what+", no wind", got, e, x.want, api.OK)
	}
}

// P4.4
func TestBlown(t *testing.T) {
	for _, x := range []struct {
		what         string
		wind         api.Slope
		height, mass int64
		want         api.Point
	}{
		{"to both sides", slope(30, -20), 100, 10, pt(300, -200)},
		{"a half is rounded up", slope(7, -7), 100, 200, pt(4, -3)},
		{"at the deck", slope(1<<20, -1<<20), 0, 1, pt(0, 0)},
		{"at all limits", slope(1<<20, -1<<20), side, 1, pt(1<<37, -1<<37)},
		{"at the other limits", slope(-1<<20, 1<<20), side, 1 << 24, pt(-1<<13, 1<<13)},
	} {
		got, e := statics.Blown([3]int64{}, api.Slope{}, api.Slope{}, x.wind, x.height, x.mass)
		check(t, x.what, got, e, x.want, api.OK)
	}
	// The slope and the wind are rounded each for itself.
	got, e := statics.Blown([3]int64{0, 0, 500}, slope(1, -1), api.Slope{}, slope(1, -1), 1, 2)
	check(t, "two halves", got, e, pt(2, 0), api.OK)
	r := chance(5)
	for range 1000 {
		c := [3]int64{from(r, -side, side), from(r, -side, side), from(r, -side, side)}
		s, a := slope(from(r, -1000, 1000), from(r, -1000, 1000)), slope(from(r, -1000, 1000), from(r, -1000, 1000))
		wind, height, mass := slope(from(r, -1<<20, 1<<20), from(r, -1<<20, 1<<20)), from(r, 0, side), from(r, 1, 1<<from(r, 0, 24))
		got, e := statics.Blown(c, s, a, wind, height, mass)
		check(t, "any", got, e, blownOf(c, s, a, wind, height, mass), api.OK)
		got, e = statics.Foot(c, s, a)
		check(t, "any, no wind", got, e, blownOf(c, s, a, api.Slope{}, 0, 1), api.OK)
	}
}

// P4.4: each number beyond its limit.
func TestFootErrors(t *testing.T) {
	type given struct {
		c            [3]int64
		s, a, wind   api.Slope
		height, mass int64
	}
	for _, x := range []struct {
		what   string
		change func(g *given, n int64)
		bad    []int64
		isFoot bool
	}{
		{"x", func(g *given, n int64) { g.c[0] = n }, []int64{side + 1, -side - 1, math.MinInt64}, true},
		{"y", func(g *given, n int64) { g.c[1] = n }, []int64{side + 1, -side - 1, math.MinInt64}, true},
		{"z", func(g *given, n int64) { g.c[2] = n }, []int64{side + 1, -side - 1, math.MinInt64}, true},
		{"the slope, X", func(g *given, n int64) { g.s.X = n }, []int64{1001, -1001, math.MinInt64}, true},
		{"the slope, Y", func(g *given, n int64) { g.s.Y = n }, []int64{1001, -1001, math.MaxInt64}, true},
		{"the acceleration, X", func(g *given, n int64) { g.a.X = n }, []int64{1001, -1001, math.MinInt64}, true},
		{"the acceleration, Y", func(g *given, n int64) { g.a.Y = n }, []int64{1001, -1001, math.MaxInt64}, true},
		{"the wind, X", func(g *given, n int64) { g.wind.X = n }, []int64{1<<20 + 1, -1<<20 - 1, math.MinInt64}, false},
		{"the wind, Y", func(g *given, n int64) { g.wind.Y = n }, []int64{1<<20 + 1, -1<<20 - 1, math.MaxInt64}, false},
		{"the height", func(g *given, n int64) { g.height = n }, []int64{-1, side + 1, math.MinInt64, math.MaxInt64}, false},
		{"the mass", func(g *given, n int64) { g.mass = n }, []int64{0, -1, 1<<24 + 1, math.MinInt64, math.MaxInt64}, false},
	} {
		for _, n := range x.bad {
			g := given{mass: 1}
			x.change(&g, n)
			got, e := statics.Blown(g.c, g.s, g.a, g.wind, g.height, g.mass)
			check(t, "Blown: "+x.what, got, e, api.Point{}, api.ErrRange)
			if x.isFoot {
				got, e = statics.Foot(g.c, g.s, g.a)
				check(t, "Foot: "+x.what, got, e, api.Point{}, api.ErrRange)
			}
		}
	}
}

// P4.5: the example; where a tilt ends.
func TestTilt(t *testing.T) {
	for _, x := range []struct {
		what string
		p    []api.Support
		c    [3]int64
		way  api.Slope
		want int64
		e    api.Errno
	}{
		{"the example", example(), [3]int64{2000, 0, 1500}, slope(1, 0), 1000, api.OK},
		{"to an edge", corner(), [3]int64{0, 100, 1000}, slope(0, -1), 100, api.OK},
		{"by greater steps", corner(), [3]int64{0, 100, 1000}, slope(0, -10), 10, api.OK},
		{"by steps that do not end there", corner(), [3]int64{0, 100, 1000}, slope(0, -7), 14, api.OK},
		{"to a corner", corner(), [3]int64{100, 100, 1000}, slope(-1, -1), 100, api.OK},
		{"beside a corner", corner(), [3]int64{100, 100, 1000}, slope(-1, -2), 50, api.OK},
		{"no step", corner(), [3]int64{0, 0, 1000}, slope(0, -1), 0, api.OK},
		{"the rounded foot stays for half a step", corner(), [3]int64{0, 0, 500}, slope(0, -1), 1, api.OK},
		{"too steep, by 10", corner(), [3]int64{300, 300, 0}, slope(10, 0), 100, api.OK},
		{"too steep, by -10", corner(), [3]int64{300, 300, 0}, slope(0, -10), 100, api.OK},
		{"too steep, by 3", corner(), [3]int64{300, 300, 0}, slope(2, 3), 333, api.OK},
		{"too steep, by -7", corner(), [3]int64{300, 300, 0}, slope(-7, 6), 142, api.OK},
		{"as far as can be", corner(), [3]int64{300, 300, 0}, slope(-1, 1), 1000, api.OK},
		{"away from the ground", corner(), [3]int64{0, 0, -100}, slope(-1, -1), 1000, api.OK},
		// By the roundings, the foot is on the edge, then beyond it, then on it again.
		{"tips in the first step, but not in the second one", []api.Support{at(0, 0, 0), at(1000, 2000, 1), at(0, 2000, 2)}, [3]int64{0, 0, 500}, slope(1, 2), 0, api.OK},
		{"tips", corner(), [3]int64{0, -1, 1000}, slope(0, 1), 0, api.ErrTip},
		{"the centre at the limit", corner(), [3]int64{side, -side, side}, slope(10, -10), 0, api.ErrTip},
		{"to the limit of a point", []api.Support{at(-side, -side, 0), at(side, -side, 1), at(0, side, 2)}, [3]int64{0, -side, side}, slope(1, 0), 1000, api.OK},
		{"no way", corner(), [3]int64{-1, 0, 0}, slope(0, 0), 0, api.ErrArg},
		{"too long a way", corner(), [3]int64{-1, 0, 0}, slope(11, 0), 0, api.ErrArg},
		{"too long a way, Y", corner(), [3]int64{-1, 0, 0}, slope(1, -11), 0, api.ErrArg},
		{"any way", corner(), [3]int64{-1, 0, 0}, slope(math.MinInt64, math.MinInt64), 0, api.ErrArg},
		{"no centre, no way", corner(), [3]int64{side + 1, 0, 0}, slope(0, 0), 0, api.ErrRange},
		{"no centre", corner(), [3]int64{0, 0, -side - 1}, slope(1, 0), 0, api.ErrRange},
		{"no platform", corner()[1:], [3]int64{side + 1, 0, 0}, slope(0, 0), 0, api.ErrMany},
	} {
		got, e := statics.Tilt(x.p, x.c, x.way)
		check(t, x.what, got, e, x.want, x.e)
	}
}

// P4.5: centres and ways of all kinds, against numbers of any size.
func TestTiltAny(t *testing.T) {
	r := chance(6)
	seen := map[api.Errno]int{}
	for range 300 {
		p := anyPlatform(t, r, 48, from(r, 100, side))
		c := amid(r, p)
		high := [3]int64{max(min(c.X, side), -side), max(min(c.Y, side), -side), from(r, -99, 9999)}
		way := slope(from(r, -10, 10), from(r, -10, 10))
		if way == (api.Slope{}) {
			continue
		}
		want, wantErr := tiltOf(p, high, way)
		got, e := statics.Tilt(p, high, way)
		check(t, "any", got, e, want, wantErr)
		seen[e]++
	}
	if seen[api.OK] < 100 || seen[api.ErrTip] < 5 {
		t.Errorf("the errors are %v", seen)
	}
}
