package statics_test

import (
	"math"
	"testing"

	"gooseneck/api"
	"gooseneck/load"
	"gooseneck/statics"
)

// P4.2: the example, and what is rounded up.
func TestShares(t *testing.T) {
	for _, x := range []struct {
		what string
		p    []api.Support
		mass int64
		at   api.Point
		want [3]int64
		e    api.Errno
	}{
		{"the example", example(), 16000, pt(2000, 0), [3]int64{4000, 3000, 5000}, api.OK},
		{"rounded up", example(), 1, pt(2000, 0), [3]int64{1, 1, 1}, api.OK},
		{"rounded up by little", corner(), 1001, pt(500, 500), [3]int64{0, 501, 501}, api.OK},
		{"on a corner", corner(), 77, pt(1000, 0), [3]int64{0, 77, 0}, api.OK},
		{"on an edge", corner(), 100, pt(0, 250), [3]int64{75, 0, 25}, api.OK},
		{"beyond an edge", corner(), 100, pt(-1, 250), [3]int64{}, api.ErrTip},
		{"beyond a corner", corner(), 100, pt(1001, 0), [3]int64{}, api.ErrTip},
		{"at the limit", corner(), 10000, pt(1000, 0), [3]int64{0, 10000, 0}, api.OK},
		{"above the limit", corner(), 10001, pt(1000, 0), [3]int64{}, api.ErrLimit},
		{"rounded up to the limit", limited(corner(), 2), 3, pt(333, 333), [3]int64{2, 1, 1}, api.OK},
		{"above the limit by less than 1", limited(corner(), 1), 3, pt(333, 333), [3]int64{}, api.ErrLimit},
		{"tips, and above the limit", limited(corner(), 1), 3, pt(-333, 333), [3]int64{}, api.ErrTip},
		{"the least mass", corner(), 1, pt(0, 0), [3]int64{1, 0, 0}, api.OK},
		{"no mass", corner(), 0, pt(0, 0), [3]int64{}, api.ErrRange},
		{"the greatest mass", limited(corner(), 1<<20), 1 << 24, pt(0, 0), [3]int64{}, api.ErrLimit},
		{"the greatest mass on all of them", wide(), 1 << 24, pt(-side/3, -side/3), [3]int64{349520, 349528, 349528}, api.OK},
		{"above the greatest mass", wide(), 1<<24 + 1, pt(-side/3, -side/3), [3]int64{}, api.ErrRange},
	} {
		got, e := statics.Shares(x.p, x.mass, x.at)
		check(t, x.what, got, e, x.want, x.e)
	}
}

// P4.2: each axle of a group has its own limit, also the last one.
func TestSharesOfUnlikeAxles(t *testing.T) {
	for i := range 4 {
		p := example()
		p[i].Limit = []int64{4000, 3000, 5000, 4000}[i]
		got, e := statics.Shares(p, 16000, pt(2000, 0))
		check(t, "at a limit", got, e, [3]int64{4000, 3000, 5000}, api.OK)
		p[i].Limit--
		got, e = statics.Shares(p, 16000, pt(2000, 0))
		check(t, "above a limit", got, e, [3]int64{}, api.ErrLimit)
	}
}

// P4.2: the errors come in the order of the chapter.
func TestSharesErrors(t *testing.T) {
	none := [3]int64{}
	for _, mass := range []int64{0, -1, 1<<24 + 1, math.MinInt64, math.MaxInt64} {
		got, e := statics.Shares(corner(), mass, pt(-1, 0))
		check(t, "no mass that may be", got, e, none, api.ErrRange)
	}
	for _, at := range beyond() {
		got, e := statics.Shares(corner(), 1, at)
		check(t, "a point beyond", got, e, none, api.ErrRange)
	}
	for _, at := range corners() {
		got, e := statics.Shares(corner(), 1, at)
		check(t, "a point at the limit", got, e, none, api.ErrTip)
	}
	got, e := statics.Shares(corner()[1:], 0, pt(2*side+1, 0))
	check(t, "no platform", got, e, none, api.ErrMany)
}

// P4.2: masses and points of all sizes, against numbers of any size.
func TestSharesAny(t *testing.T) {
	r := chance(3)
	seen := map[api.Errno]int{}
	for range 3000 {
		p := anyPlatform(t, r, 48, from(r, 1, side))
		mass, at := from(r, 1, 1<<from(r, 0, 24)), amid(r, p)
		want, wantErr := sharesOf(p, mass, at)
		got, e := statics.Shares(p, mass, at)
		check(t, "any", got, e, want, wantErr)
		seen[e]++
	}
	if seen[api.OK] < 500 || seen[api.ErrTip] < 20 || seen[api.ErrLimit] < 200 {
		t.Errorf("the errors are %v", seen)
	}
}

// P4.3: of several groups whose part is below 0 the first one.
func TestTips(t *testing.T) {
	for _, x := range []struct {
		what string
		p    []api.Support
		at   api.Point
		want int
		e    api.Errno
	}{
		{"the example, tipping", example(), pt(5000, 0), 0, api.OK},
		{"the example", example(), pt(2000, 0), 0, api.ErrNone},
		{"the group 1", corner(), pt(-1, 500), 1, api.OK},
		{"the group 2", corner(), pt(500, -1), 2, api.OK},
		{"the groups 1 and 2", corner(), pt(-1, -1), 1, api.OK},
		{"the groups 0 and 2", corner(), pt(1100, -1), 0, api.OK},
		{"the groups 0 and 1", corner(), pt(-1, 1100), 0, api.OK},
		{"to the right", regrouped(corner(), []int{0, 2, 1}), pt(500, -1), 1, api.OK},
		{"on an edge", corner(), pt(500, 500), 0, api.ErrNone},
		{"on a corner", corner(), pt(0, 1000), 0, api.ErrNone},
		{"too few", corner()[1:], pt(0, 0), 0, api.ErrMany},
	} {
		got, e := statics.Tips(x.p, x.at)
		check(t, x.what, got, e, x.want, x.e)
	}
	for _, at := range beyond() {
		got, e := statics.Tips(corner(), at)
		check(t, "beyond", got, e, 0, api.ErrRange)
	}
	for _, at := range corners() {
		got, e := statics.Tips(corner(), at)
		check(t, "at the limit", got, e, tipsOf(corner(), at), api.OK)
	}
}

// box is a load with its centre at (x, y, z), whose amounts have to be at least 1.
func box(x, y, z, mass int64) api.Load {
	return api.Load{Name: "box", Pieces: []api.Piece{{X: x - 1, Y: y - 1, Z: z - 1, L: 2, W: 2, H: 2, Mass: mass}}}
}

// P4.9
func TestStands(t *testing.T) {
	up := api.Slope{}
	for _, x := range []struct {
		what string
		p    []api.Support
		l    api.Load
		s, a api.Slope
		want [3]int64
		e    api.Errno
	}{
		{"level", example(), box(2000, 0, 1000, 16000), up, up, [3]int64{4000, 3000, 5000}, api.OK},
		{"on a slope", example(), box(1900, 20, 1000, 16000), slope(100, -20), up, [3]int64{4000, 3000, 5000}, api.OK},
		{"accelerated", example(), box(1900, 20, 1000, 16000), up, slope(100, -20), [3]int64{4000, 3000, 5000}, api.OK},
		{"both", example(), box(1900, 20, 1000, 16000), slope(300, 0), slope(-200, -20), [3]int64{4000, 3000, 5000}, api.OK},
		{"on too much of a slope", example(), box(2000, 0, 1300, 16000), up, slope(0, 1000), [3]int64{}, api.ErrTip},
		{"too heavy", example(), box(2000, 0, 1000, 60000), up, up, [3]int64{}, api.ErrLimit},
		{"beyond the place", example(), box(side-1, 0, side-1, 1), slope(1000, 0), slope(1000, 0), [3]int64{}, api.ErrRange},
		{"too few", corner()[1:], api.Load{}, slope(1001, 0), up, [3]int64{}, api.ErrMany},
		{"no pieces", example(), api.Load{Name: "box"}, slope(1001, 0), up, [3]int64{}, api.ErrMany},
		{"no load", example(), box(2000, 0, 1000, 0), slope(1001, 0), up, [3]int64{}, api.ErrArg},
		{"not valid, and no platform", []api.Support{at(0, 0, 0), at(1, 1, 1), at(2, 2, 2)}, box(2000, 0, 1000, 0), up, up, [3]int64{}, api.ErrZero},
		{"a slope that may not be", example(), box(5000, 0, 1000, 1), slope(0, -1001), up, [3]int64{}, api.ErrRange},
		{"an acceleration that may not be", example(), box(5000, 0, 1000, 1), up, slope(-1001, 0), [3]int64{}, api.ErrRange},
	} {
		got, e := statics.Stands(x.p, x.l, x.s, x.a)
		check(t, x.what, got, e, x.want, x.e)
	}
}

// P4.9: it is Shares of the mass at the foot of the centre.
func TestStandsAny(t *testing.T) {
	r := chance(4)
	fine := 0
	for range 500 {
		p := limited(anyPlatform(t, r, 48, side), api.MaxLoad)
		c := amid(r, p)
		l := box(max(min(c.X, side-1), 1-side), max(min(c.Y, side-1), 1-side), from(r, 1, 5000), from(r, 1, 1<<20))
		l.Pieces = append(l.Pieces, api.Piece{X: from(r, -99, 99), Z: from(r, 0, 99), L: from(r, 1, 99), W: 7, H: 8, Mass: from(r, 0, 99)})
		s, a := slope(from(r, -1000, 1000), from(r, -1000, 1000)), slope(from(r, -1000, 1000), from(r, -1000, 1000))
		centre := must[[3]int64](t, "Centre")(load.Centre(l))
		foot := must[api.Point](t, "Foot")(statics.Foot(centre, s, a))
		want, wantErr := statics.Shares(p, must[int64](t, "Mass")(load.Mass(l)), foot)
		got, e := statics.Stands(p, l, s, a)
		check(t, "any", got, e, want, wantErr)
		if e == api.OK {
			fine++
		}
	}
	if fine < 100 {
		t.Errorf("only %d stand", fine)
	}
}
