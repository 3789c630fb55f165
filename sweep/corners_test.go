package sweep_test

import (
	"math"
	"slices"
	"testing"

	"gooseneck/api"
	"gooseneck/plane"
	"gooseneck/sweep"
)

// turned returns a rig whose load is turned and shifted.
func turned(r api.Rig, c, s, n, x, y int64) api.Rig {
	r.Turn, r.Shift = api.Rot{C: c, S: s, N: n}, pt(x, y)
	return r
}

// onLine returns the rig of a row with a section on the load line.
func onLine(n int, hull ...api.Point) api.Rig { return rig(row(n), section(-1, 0, 1, hull...)) }

// meeting is a vehicle the ends of whose load line are the same: its second unit is pulled from ahead of the axle of the
// first one, and just as far.
func meeting() api.Vehicle { return of(unit(-500), sized(unit(0), 500, 0, 500)) }

// P5.2
func TestCorners(t *testing.T) {
	l := box(0, -500, 1000, 500)
	for _, x := range []struct {
		what string
		r    api.Rig
		p    api.Pose
		i    int
		want []api.Point
		e    api.Errno
	}{
		{"the example", example(), start(), 0, pts(-1000, -500, 0, -500, 0, 500, -1000, 500), api.OK},
		{"backwards: in the order of the hull", example(), pose(-1000, 0, 0, 0), 0, pts(0, 500, -1000, 500, -1000, -500, 0, -500), api.OK},
		{"to the left", example(), pose(0, 0, 0, -1000), 0, pts(500, -1000, 500, 0, -500, 0, -500, -1000), api.OK},
		{"aslant", rig(row(1), section(0, 0, 1, pts(-100, 50)...)), pose(600, 800, 0, 0), 0, pts(-100, -50), api.OK},
		{"the second unit", onRow(2), onAxis(2, 0), 1, box(-2200, -500, -1200, 500), api.OK},
		{"of a row: from the middle of the last axles", onLine(2, l...), onAxis(2, 0), 0, box(-2200, -500, -1200, 500), api.OK},
		{"of one unit: from its joint", onLine(1, l...), onAxis(1, 0), 0, box(-1000, -500, 0, 500), api.OK},
		{"shifted", turned(onLine(2, l...), 1, 0, 1, 30, -7), onAxis(2, 0), 0, box(-2170, -507, -1170, 493), api.OK},
		{"turned, then shifted", turned(onLine(2, l...), 0, 1, 1, 30, -7), onAxis(2, 0), 0, pts(-1670, -7, -1670, 993, -2670, 993, -2670, -7), api.OK},
		{"turned to nearest numbers", turned(onLine(2, pt(3, 1)), 3, 4, 5, 0, 0), onAxis(2, 0), 0, pts(-2199, 3), api.OK},
		{"units are neither turned nor shifted", turned(onRow(2), 0, 1, 1, 30, -7), onAxis(2, 0), 1, box(-2200, -500, -1200, 500), api.OK},
		{"the ends of the load line are the same", rig(meeting(), section(-1, 0, 1, l...)), pose(0, 0, -1000, 0, -1000, 0), 0, nil, api.ErrZero},
		{"but not for a section on a unit", rig(meeting(), section(-1, 0, 1, l...), section(0, 0, 1, l...)), pose(0, 0, -1000, 0, -1000, 0), 1, box(-1000, -500, 0, 500), api.OK},
		{"at the end of the place", example(), pose(far, far-500, far-1000, far-500), 0, box(far-1000, far-1000, far, far), api.OK},
		{"beyond the place", example(), pose(far, far-499, far-1000, far-499), 0, nil, api.ErrOver},
		{"a load beyond the place", onLine(1, pt(1001, 0)), pose(far, 0, far-1000, 0), 0, nil, api.ErrOver},
		{"the end of the line beyond the place", rig(of(jointed(unit(0), 500)), section(-1, 0, 1, pt(900, 0))), pose(499-far, 0, -far, 0), 0, nil, api.ErrOver},
		{"no such section", onRow(2), onAxis(2, 0), 3, nil, api.ErrRange},
		{"a section below 0", onRow(2), onAxis(2, 0), -1, nil, api.ErrRange},
		{"far beyond", onRow(2), onAxis(2, 0), math.MaxInt64, nil, api.ErrRange},
		{"far below", onRow(2), onAxis(2, 0), math.MinInt64, nil, api.ErrRange},
		{"no pose", onRow(2), api.Pose{}, 0, nil, api.ErrRange},
		{"a pose of another vehicle", onRow(2), onAxis(3, 0), 0, nil, api.ErrRange},
		{"a rig that is not valid", rig(row(1)), api.Pose{}, 0, nil, api.ErrArg},
		{"too many units", onRow(13), api.Pose{}, -1, nil, api.ErrMany},
	} {
		got, e := sweep.Corners(x.r, x.p, x.i)
		check(t, x.what, got, e, x.want, x.e)
	}
}

// P5.2
func TestSwept(t *testing.T) {
	to := pose(1000, 0, 0, 0)
	beyond := pose(far, far, far-1000, far)
	line := rig(meeting(), section(-1, 0, 1, pt(0, 0)), section(1, 0, 1, pt(0, 0)))
	same, apart := pose(0, 0, -1000, 0, -1000, 0), pose(0, 0, -1000, 0, -1000, 9)
	for _, x := range []struct {
		what string
		r    api.Rig
		a, b api.Pose
		i    int
		want []api.Point
		e    api.Errno
	}{
		{"the example", example(), start(), to, 0, box(-1000, -500, 1000, 500), api.OK},
		{"and back", example(), to, start(), 0, box(-1000, -500, 1000, 500), api.OK},
		{"nowhere", example(), start(), start(), 0, box(-1000, -500, 0, 500), api.OK},
		{"around a corner", example(), start(), pose(0, 1000, 0, 0), 0, pts(-1000, -500, 0, -500, 500, 0, 500, 1000, -500, 1000, -1000, 500), api.OK},
		{"a point", onLine(1, pt(0, 0)), start(), pose(1, 1001, 1, 1), 0, pts(-1000, 0, 1, 1), api.OK},
		{"a point nowhere", onLine(1, pt(0, 0)), start(), start(), 0, pts(-1000, 0), api.OK},
		{"32 corners", rig(row(1), section(0, 0, 1, round(0, 0, 30)...)), start(), pose(0, 0, -600, 800), 0, nil, api.OK},
		{"before beyond the place", example(), beyond, to, 0, nil, api.ErrOver},
		{"behind beyond the place", example(), to, beyond, 0, nil, api.ErrOver},
		{"the load line has no length before", line, same, apart, 0, nil, api.ErrZero},
		{"the load line has no length behind", line, apart, same, 0, nil, api.ErrZero},
		{"a section that is not on it", line, apart, same, 1, pts(-1000, 0, -1000, 9), api.OK},
		{"no such section", example(), start(), to, 1, nil, api.ErrRange},
		{"a section below 0", example(), start(), to, math.MinInt64, nil, api.ErrRange},
		{"no pose before", example(), api.Pose{}, beyond, 0, nil, api.ErrRange},
		{"no pose behind", example(), beyond, api.Pose{}, 0, nil, api.ErrRange},
		{"a rig that is not valid", rig(row(1)), api.Pose{}, to, 0, nil, api.ErrArg},
		{"too many sections", rig(row(1), make([]api.Section, 25)...), api.Pose{}, to, -1, nil, api.ErrMany},
	} {
		got, e := sweep.Swept(x.r, x.a, x.b, x.i)
		if x.what == "32 corners" {
			x.want = sweptOf(t, x.r, x.a, x.b, x.i)
		}
		check(t, x.what, got, e, x.want, x.e)
	}
}

// P5.2
func TestHeights(t *testing.T) {
	r := rig(row(1), section(0, -5, 7, pt(0, 0)), section(-1, -5, 7, pt(0, 0)), section(-1, top, top, pt(0, 0)))
	r.Lift = top
	for _, x := range []struct {
		what string
		r    api.Rig
		i    int
		want [2]int64
		e    api.Errno
	}{
		{"on a unit", r, 0, [2]int64{-5, 7}, api.OK},
		{"on the load line", r, 1, [2]int64{top - 5, top + 7}, api.OK},
		{"as high as it can be", r, 2, [2]int64{2 * top, 2 * top}, api.OK},
		{"not lifted", onRow(1), 1, [2]int64{901, 1000}, api.OK},
		{"no such section", r, 3, [2]int64{}, api.ErrRange},
		{"a section below 0", r, -1, [2]int64{}, api.ErrRange},
		{"a rig that is not valid", rig(row(1)), 0, [2]int64{}, api.ErrArg},
		{"too many units", onRow(13), 99, [2]int64{}, api.ErrMany},
	} {
		low, high, e := sweep.Heights(x.r, x.i)
		check(t, x.what, [2]int64{low, high}, e, x.want, x.e)
	}
}

// P5.2
func TestCornersByChance(t *testing.T) {
	r := chance(1)
	errors := map[api.Errno]int{}
	for round := range 3000 {
		most := []int64{100, 1000, 20000, size / 2}[round%4]
		g := anyRig(t, r, 4, most)
		if r.IntN(9) == 0 {
			g.Vehicle = meeting()
			for i := range g.Sections {
				g.Sections[i].On = r.IntN(3) - 1
			}
		}
		way := anyWay(t, r, g.Vehicle, 2, some(r, pt(0, 0), pt(far-most, 0), pt(9, 2*most-far)), most)
		a, b, i := way[0], way[len(way)-1], r.IntN(len(g.Sections))
		want, wantErr := cornersOf(g, a, i)
		got, e := sweep.Corners(g, a, i)
		check(t, "Corners by chance", got, e, want, wantErr)
		errors[e]++
		more, moreErr := cornersOf(g, b, i)
		swept, e := sweep.Swept(g, a, b, i)
		if wantErr != api.OK {
			check(t, "Swept by chance", swept, e, nil, wantErr)
		} else if moreErr != api.OK {
			check(t, "Swept by chance", swept, e, nil, moreErr)
		} else {
			check(t, "Swept by chance", swept, e, must[[]api.Point](t, "Hull")(plane.Hull(slices.Concat(want, more))), api.OK)
		}
	}
	if errors[api.OK] < 1000 || errors[api.ErrOver] < 100 || errors[api.ErrZero] < 20 {
		t.Errorf("the poses are too much alike: %v", errors)
	}
}
