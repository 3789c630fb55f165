package load_test

import (
	"math"
	"slices"
	"testing"

	"gooseneck/api"
	"gooseneck/load"
)

// P2.8
func TestPull(t *testing.T) {
	l := with(of(block(0, 0, 0, 1000, 1000, 1000, 1)), eye(0, 0, 0, 4000), eye(10, 20, 30, 1<<22), eye(-side, -side, side, 1<<22))
	for _, x := range []struct {
		what string
		lash api.Lash
		want [3]int64
	}{
		{"along X, the lesser strength that of the eye", api.Lash{Eye: 0, X: 7, Strength: 5000}, [3]int64{4000, 0, 0}},
		{"along X, the lesser strength its own", api.Lash{Eye: 0, X: 7, Strength: 3999}, [3]int64{3999, 0, 0}},
		{"back", api.Lash{Eye: 0, X: -7, Strength: 3999}, [3]int64{-3999, 0, 0}},
		{"to the right", api.Lash{Eye: 0, Y: -1, Strength: 8}, [3]int64{0, -8, 0}},
		{"straight down", api.Lash{Eye: 0, Z: -side, Strength: 8}, [3]int64{0, 0, 8}},
		{"a root that is whole", api.Lash{Eye: 1, X: 13, Y: 20, Z: 26, Strength: 100}, [3]int64{60, 0, 80}},
		{"a root that is not: it is rounded up, and the numbers towards 0", api.Lash{Eye: 1, X: 11, Y: 19, Z: 30, Strength: 5}, [3]int64{2, -2, 0}},
		{"three numbers", api.Lash{Eye: 1, X: 11, Y: 21, Z: 29, Strength: 1001}, [3]int64{500, 500, 500}},
		{"three numbers below 0", api.Lash{Eye: 1, X: 9, Y: 19, Z: 29, Strength: 1001}, [3]int64{-500, -500, 500}},
		{"no strength", api.Lash{Eye: 1}, [3]int64{}},
		{"as far as it can be", api.Lash{Eye: 2, X: side, Y: side, Z: -side, Strength: 1 << 22}, [3]int64{2421581, 2421581, 2421581}},
	} {
		got, e := load.Pull(l, x.lash)
		check(t, x.what, got, e, x.want, api.OK)
	}
	got, e := load.Pull(example(), api.Lash{Eye: 1, X: 4000, Y: 1000, Z: -1000, Strength: 5000})
	check(t, "the example", got, e, [3]int64{4000, 0, 3000}, api.OK)
}

// P2.8
func TestPullByChance(t *testing.T) {
	r := chance(9)
	for range 2000 {
		most := from(r, 1, side)
		l := anyLoad(r, 4, most)
		x := anyLash(r, l, most)
		got, e := load.Pull(l, x)
		check(t, "Pull", got, e, pullOf(l, x), api.OK)
	}
}

// noLashes are lashings that are not valid for the load of badLashLoad.
var noLashes = []struct {
	what string
	x    api.Lash
}{
	{"an eye below", api.Lash{Eye: -1, X: 5}},
	{"an eye beyond", api.Lash{Eye: 2, X: 5}},
	{"an eye far below", api.Lash{Eye: math.MinInt, X: 5}},
	{"an eye far beyond", api.Lash{Eye: math.MaxInt, X: 5}},
	{"X below", api.Lash{X: -side - 1}},
	{"X beyond", api.Lash{X: side + 1}},
	{"Y below", api.Lash{Y: -side - 1}},
	{"Y beyond", api.Lash{Y: side + 1}},
	{"Z below", api.Lash{X: 5, Z: -side - 1}},
	{"above its eye", api.Lash{X: 5, Z: 101}},
	{"at its eye", api.Lash{X: 10, Y: 20, Z: 100}},
	{"above the other eye", api.Lash{Eye: 1, X: 5, Z: 1}},
	{"strength below 0", api.Lash{X: 5, Strength: -1}},
	{"strength beyond", api.Lash{X: 5, Strength: 1<<22 + 1}},
	{"the least number", api.Lash{X: math.MinInt64}},
	{"the greatest number", api.Lash{X: 5, Strength: math.MaxInt64}},
}

func badLashLoad() api.Load {
	return with(of(block(0, 0, 0, 1, 1, 1, 1)), eye(10, 20, 100, 5), eye(0, 0, 0, 5))
}

// P2.8: each limit of a lashing, also the values at it.
func TestLashErrors(t *testing.T) {
	l := badLashLoad()
	for _, x := range noLashes {
		got, e := load.Pull(l, x.x)
		check(t, x.what, got, e, [3]int64{}, api.ErrArg)
		reach, e := load.Reach(l, []api.Lash{{X: 5}, x.x}, api.Shake{})
		checkList(t, x.what, reach, e, nil, api.ErrArg)
	}
	for _, x := range []api.Lash{
		{X: side, Y: side, Z: 100, Strength: 1 << 22}, {X: -side, Y: -side, Z: -side}, {X: 10, Y: 20, Z: 99}, {X: 11, Y: 20, Z: 100},
		{X: 10, Y: 21, Z: 100}, {Eye: 1, X: 1}, {Eye: 1, Z: -1},
	} {
		got, e := load.Pull(l, x)
		check(t, "at a limit", got, e, pullOf(l, x), api.OK)
	}
	got, e := load.Pull(of(block(0, 0, 0, 1, 1, 1, 1)), api.Lash{X: 1})
	check(t, "without eyes", got, e, [3]int64{}, api.ErrArg)
	got, e = load.Pull(api.Load{}, api.Lash{Eye: -1})
	check(t, "without a load", got, e, [3]int64{}, api.ErrMany)
}

// P2.9
func TestNeed(t *testing.T) {
	for _, x := range []struct {
		what string
		mass int64
		s    api.Shake
		want api.Point
	}{
		{"the example", 5000, api.Shake{X: 800, Z: 1000}, pt(4000, 0)},
		{"the example again", 5000, api.Shake{X: 1, Y: -1, Z: 1000}, pt(5, -5)},
		{"rounded away from 0", 1001, api.Shake{X: 1, Y: -1}, pt(2, -2)},
		{"rounded away from 0, the least amount", 1, api.Shake{X: -1, Y: 1}, pt(-1, 1)},
		{"whole", 3, api.Shake{X: 1000, Y: -2000}, pt(3, -6)},
		{"a little more than whole", 1001, api.Shake{X: -1000, Y: 999}, pt(-1001, 1000)},
		{"nothing", 1 << 24, api.Shake{Z: 2000}, pt(0, 0)},
		{"the greatest one", 1 << 24, api.Shake{X: 2000, Y: -2000}, pt(1<<25, -1<<25)},
	} {
		l := of(block(0, 0, 0, 1, 1, 1, x.mass-1), block(0, 0, 0, 1, 1, 1, 1))
		got, e := load.Need(l, x.s)
		check(t, x.what, got, e, x.want, api.OK)
	}
	r := chance(10)
	for range 500 {
		l, s := anyLoad(r, 4, 9), anyShake(r)
		got, e := load.Need(l, s)
		check(t, "Need", got, e, needOf(l, s), api.OK)
	}
}

// P2.9
func TestReach(t *testing.T) {
	eight := pts(-1500, 0, -1060, -1060, 0, -1500, 1060, -1060, 1500, 0, 1060, 1060, 0, 1500, -1060, 1060)
	l := with(of(block(0, 0, 0, 10, 10, 10, 1000)), eye(0, 0, 0, 1<<22), eye(0, 0, 30, 1<<22))
	ahead, behind, left := api.Lash{X: 9, Strength: 30}, api.Lash{X: -9, Strength: 20}, api.Lash{Y: 9, Strength: 7}
	down, steep := api.Lash{Eye: 1, Strength: 20}, api.Lash{Eye: 1, X: 40, Strength: 50}
	for _, x := range []struct {
		what  string
		l     api.Load
		lash  []api.Lash
		z     int64
		reach []api.Point
	}{
		{"the example", example(), nil, 1000, eight},
		{"without weight", example(), nil, 0, pts(0, 0)},
		{"without friction", rubbing(l, 0), nil, 1000, pts(0, 0)},
		{"a friction of 2: the corners between are on the sides", rubbing(l, 2), nil, 1000, pts(-2, 0, 0, -2, 2, 0, 0, 2)},
		{"a friction of 3: they are not", rubbing(l, 3), nil, 1000, pts(-3, 0, -2, -2, 0, -3, 2, -2, 3, 0, 2, 2, 0, 3, -2, 2)},
		{"a friction that is rounded down to 0", rubbing(l, 1), nil, 999, pts(0, 0)},
		{"a weight that is rounded down", rubbing(of(block(0, 0, 0, 1, 1, 1, 1999)), 1000), nil, 1, pts(-1, 0, 0, -1, 1, 0, 0, 1)},
		{"no friction, a lashing ahead", rubbing(l, 0), []api.Lash{ahead}, 1000, pts(0, 0, 30, 0)},
		{"no friction, a lashing behind", rubbing(l, 0), []api.Lash{behind}, 1000, pts(-20, 0, 0, 0)},
		{"no friction, a lashing to the left", rubbing(l, 0), []api.Lash{left}, 1000, pts(0, 0, 0, 7)},
		{"no friction, ahead and behind", rubbing(l, 0), []api.Lash{ahead, behind}, 1000, pts(-20, 0, 30, 0)},
		{"no friction, ahead, behind and to the left", rubbing(l, 0), []api.Lash{left, ahead, behind}, 1000, pts(-20, 0, 30, 0, 30, 7, -20, 7)},
		{"no friction, straight down", rubbing(l, 0), []api.Lash{down}, 1000, pts(0, 0)},
		{"friction, straight down", rubbing(l, 100), []api.Lash{down}, 0, pts(-2, 0, 0, -2, 2, 0, 0, 2)},
		{"friction, ahead and down: the area of 30 is moved by 40", rubbing(l, 100), []api.Lash{steep}, 0, pts(0, 0, 40, -3, 42, -2, 43, 0, 42, 2, 40, 3)},
		{"a lashing without strength", example(), []api.Lash{{X: 9}}, 1000, eight},
	} {
		got, e := load.Reach(x.l, x.lash, api.Shake{X: 7, Y: 7, Z: x.z})
		checkList(t, x.what, got, e, x.reach, api.OK)
	}
}

// P2.9
func TestReachByChance(t *testing.T) {
	r := chance(11)
	for range 300 {
		l := anyLoad(r, 5, from(r, 1, side))
		x, s := anyLashes(r, l, from(r, 0, 6), side), anyShake(r)
		got, e := load.Reach(l, x, s)
		checkList(t, "Reach", got, e, reachBySums(l, x, s), api.OK)
		small, x := light(r, from(r, 0, 6))
		got, e = load.Reach(small, x, s)
		checkList(t, "Reach", got, e, reachBySums(small, x, s), api.OK)
	}
	for range 20 {
		l := anyLoad(r, 32, side)
		x, s := anyLashes(r, l, api.MaxLashes, side), anyShake(r)
		got, e := load.Reach(l, x, s)
		checkList(t, "Reach of as many lashings as there may be", got, e, reachBySums(l, x, s), api.OK)
	}
}

// P2.9: the greatest mass, shake and friction, and the greatest strengths.
func TestReachAtLimits(t *testing.T) {
	l := with(rubbing(of(block(0, 0, 0, 1, 1, 1, 1<<24)), 1000), eye(0, 0, side, 1<<22))
	var x []api.Lash
	for i := range int64(24) {
		x = append(x, api.Lash{X: side, Y: i - 12, Z: i * (side / 24), Strength: 1 << 22})
	}
	for n := range 25 {
		got, e := load.Reach(l, x[:n], api.Shake{Z: 2000})
		checkList(t, "Reach at the limits", got, e, reachBySums(l, x[:n], api.Shake{Z: 2000}), api.OK)
	}
	flat := slices.Repeat([]api.Lash{{X: side, Z: side, Strength: 1 << 22}}, 24)
	got := reachOf(t, l, flat, api.Shake{Z: 2000})
	if !slices.Contains(got, pt(1<<25+24<<22, 0)) || !slices.Contains(got, pt(-1<<25, 0)) || len(got) != 10 {
		t.Errorf("the reach of all lashings ahead: %v", got)
	}
}

// P2.9, P2.10, P2.11: the limits of a shake.
func TestShakeErrors(t *testing.T) {
	for _, n := range extremes {
		want := [2]api.Errno{api.ErrRange, api.ErrRange}
		if -2000 <= n && n <= 2000 {
			want[0] = api.OK
		}
		if 0 <= n && n <= 2000 {
			want[1] = api.OK
		}
		for i, s := range []api.Shake{{X: n}, {Y: n}} {
			_, e := load.Need(example(), s)
			checkErr(t, []string{"X", "Y"}[i], e, want[0])
			_, e = load.Reach(example(), nil, s)
			checkErr(t, []string{"X", "Y"}[i], e, want[0])
		}
		_, e := load.Need(example(), api.Shake{Z: n})
		checkErr(t, "Z", e, want[1])
		_, e = load.Hold(example(), nil, api.Shake{Z: n})
		checkErr(t, "Z", e, want[1])
		_, e = load.Least(example(), nil, []api.Shake{{}, {Z: n}})
		checkErr(t, "Z", e, want[1])
	}
}

// The order of errors: of the load, of how many lashings there are, of the lashings, of the shakes.
func TestShakenErrors(t *testing.T) {
	good, bad := api.Lash{X: 5}, api.Lash{X: 10, Y: 20, Z: 100}
	fine, wild := api.Shake{Z: 1000}, api.Shake{Z: 2001}
	for _, x := range []struct {
		what string
		l    api.Load
		x    []api.Lash
		s    api.Shake
		want api.Errno
	}{
		{"as many as there may be", badLashLoad(), slices.Repeat([]api.Lash{good}, 24), fine, api.OK},
		{"a lashing too many", badLashLoad(), slices.Repeat([]api.Lash{good}, 25), fine, api.ErrMany},
		{"a lashing too many, none valid", badLashLoad(), slices.Repeat([]api.Lash{bad}, 25), wild, api.ErrMany},
		{"the last one not valid", badLashLoad(), []api.Lash{good, good, bad}, wild, api.ErrArg},
		{"the shake", badLashLoad(), []api.Lash{good}, wild, api.ErrRange},
		{"the load before all", rubbing(badLashLoad(), -1), slices.Repeat([]api.Lash{bad}, 25), wild, api.ErrArg},
		{"no load", api.Load{}, []api.Lash{bad}, wild, api.ErrMany},
	} {
		reach, e := load.Reach(x.l, x.x, x.s)
		checkErr(t, x.what+": Reach", e, x.want)
		if e != api.OK && len(reach) > 0 {
			t.Errorf("%s: the reach is %v", x.what, reach)
		}
		n, e := load.Hold(x.l, x.x, x.s)
		check(t, x.what+": Hold", n, e, pt(0, 0), x.want)
		e = load.Slips(x.l, x.x, x.s, pt(1<<31, 0))
		if x.want == api.OK {
			checkErr(t, x.what+": Slips", e, api.ErrRange)
		} else {
			checkErr(t, x.what+": Slips", e, x.want)
		}
		left, e := load.Least(x.l, x.x, []api.Shake{fine, x.s})
		checkList(t, x.what+": Least", left, e, nil, x.want)
	}
}
