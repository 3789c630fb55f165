package chain_test

import (
	"math"
	"slices"
	"testing"

	"gooseneck/api"
	"gooseneck/chain"
	"gooseneck/plane"
)

// P3.3
func TestStraight(t *testing.T) {
	joined := of(unit(0, 1000, -400), steered(unit(1, 500, 200), 500), unit(2, 700, 0))
	for _, x := range []struct {
		what         string
		v            api.Vehicle
		lead, behind api.Point
		want         api.Pose
	}{
		{"the example", example(), pt(0, 0), pt(-100, 0), examplePose()},
		{"one unit", of(unit(0, 1000, 5)), pt(7, 8), pt(7, 9), pose(7, 8, 7, 1008)},
		{"a point just behind", example(), pt(0, 0), pt(0, 1), pose(0, 0, 0, 4000, 0, 10000)},
		{"a point far behind", example(), pt(0, 0), pt(far, 0), pose(0, 0, 4000, 0, 10000, 0)},
		{"aslant", of(unit(0, 500, 50), unit(1, 1000, 0)), pt(100, 200), pt(103, 204), pose(100, 200, 400, 600, 1030, 1440)},
		// The joints are at -600, and at -600 - 500 - 200.
		{"joints ahead of axles, and steering", joined, pt(0, 0), pt(-9, 0), pose(0, 0, -1000, 0, -850, 0, -2000, 0)},
		{"the lead at the limit", row(3), pt(far, -far), pt(far, far), pose(far, -far, far, 3000-far, far, 7000-far, far, 11000-far)},
		{"the last axle at the limit", row(3), pt(0, 11000-far), pt(0, 0), straightAlong(3, pt(0, 11000-far), pt(0, 1))},
		{"up to the limit", row(3), pt(11000-far, 5), pt(-far, 5), straightAlong(3, pt(11000-far, 5), pt(-1, 0))},
	} {
		p, e := chain.Straight(x.v, x.lead, x.behind)
		checkPose(t, x.what, p, e, x.want, api.OK)
		checkErr(t, x.what, chain.CheckPose(x.v, p), api.OK)
	}
}

// straightAlong returns the straight pose of a row of n units on an axis, which go back from a lead in a direction.
func straightAlong(n int, lead, back api.Point) api.Pose {
	p := api.Pose{Lead: lead}
	for i := range int64(n) {
		p.Axles = append(p.Axles, pt(lead.X+back.X*(3000+4000*i), lead.Y+back.Y*(3000+4000*i)))
	}
	return p
}

// P3.3
func TestStraightErrors(t *testing.T) {
	// The first joint is at its lead, but for less than half a millimetre that is rounded.
	ahead := unit(0, 200, -200)
	for _, x := range []struct {
		what         string
		v            api.Vehicle
		lead, behind api.Point
		want         api.Errno
	}{
		{"the same point", row(2), pt(1, 1), pt(1, 1), api.ErrZero},
		{"the same point, not valid", row(2), pt(far+1, 1), pt(far+1, 1), api.ErrArg},
		{"a lead beyond", row(2), pt(0, -far-1), pt(0, 0), api.ErrArg},
		{"a point beyond", row(2), pt(0, 0), pt(math.MinInt64, 0), api.ErrArg},
		{"the first axle beyond", row(1), pt(2999-far, 0), pt(-far, 0), api.ErrOver},
		{"the joint of the last unit beyond", row(2), pt(3999-far, 0), pt(-far, 0), api.ErrOver},
		{"the last axle beyond", row(2), pt(0, far-6999), pt(0, far), api.ErrOver},
		{"the last joint beyond only: no valid pose", of(ahead, ahead), pt(far, 0), pt(far-18, 7), api.ErrZero},
		{"the same joint, on the way to a further axle", of(ahead, ahead, ahead), pt(far, 0), pt(far-18, 7), api.ErrOver},
		{"a vehicle that is not valid", api.Vehicle{}, pt(far+1, 0), pt(far+1, 0), api.ErrArg},
		{"too many units", row(13), pt(far+1, 0), pt(far+1, 0), api.ErrMany},
	} {
		p, e := chain.Straight(x.v, x.lead, x.behind)
		checkPose(t, x.what, p, e, api.Pose{}, x.want)
	}
}

// P3.3
func TestStraightByChance(t *testing.T) {
	r := chance(2)
	for round := range 4000 {
		most := []int64{100, 300, 10000, size}[round%4]
		v := anyVehicle(r, 12, most)
		lead := anyPoint(r, []int64{most, far, far}[round%3])
		behind := near(r, lead, []int64{1, most, 3}[round%3])
		if lead == behind || plane.Check(lead) != api.OK || plane.Check(behind) != api.OK {
			continue
		}
		p, e := chain.Straight(v, lead, behind)
		want, wantErr := straightOf(v, lead, behind)
		checkPose(t, "Straight by chance", p, e, want, wantErr)
	}
}

// P3.3
func TestCheckPose(t *testing.T) {
	v := loaded(row(3), 0, 0)
	good := pose(0, 0, -3000, 0, -7000, 0, -11000, 0)
	for _, x := range []struct {
		what string
		v    api.Vehicle
		p    api.Pose
		want api.Errno
	}{
		{"the example", example(), examplePose(), api.OK},
		{"a straight pose", v, good, api.OK},
		{"any distances", v, pose(0, 0, 1, 0, 1001, 1, 1, 9), api.OK},
		{"the lead at the limit", v, pose(far, far, far-3, far, far-1000, far-9, far, far-9), api.OK},
		{"no axles", v, api.Pose{}, api.ErrRange},
		{"an axle too few", v, pose(0, 0, -3000, 0, -7000, 0), api.ErrRange},
		{"an axle too many", v, pose(0, 0, -3000, 0, -7000, 0, -11000, 0, -15000, 0), api.ErrRange},
		{"the lead beyond", v, pose(far+1, 0, far, 0, 0, 0, 9, 9), api.ErrRange},
		{"the lead far beyond", v, pose(math.MinInt64, 0, math.MinInt64, 9, 0, 0, 9, 9), api.ErrRange},
		{"the lead of one unit beyond", row(1), pose(far+1, 0, far, 0), api.ErrRange},
		{"the lead of one unit at the limit", row(1), pose(far, 0, far-1, 0), api.OK},
		{"the first axle beyond", v, pose(0, 0, 0, -far-1, 0, 0, 9, 9), api.ErrRange},
		{"the axle of the middle beyond", v, pose(0, 0, -3000, 0, far+1, 0, 9, 9), api.ErrRange},
		{"the last axle beyond", v, pose(0, 0, -3000, 0, -7000, 0, math.MaxInt64, 0), api.ErrRange},
		{"the first axle at its joint", v, pose(0, 0, 0, 0, -7000, 0, -11000, 0), api.ErrRange},
		{"the axle of the middle at its joint", v, pose(0, 0, -3000, 0, -4000, 0, -11000, 0), api.ErrRange},
		{"the last axle at its joint", v, pose(0, 0, -3000, 0, -7000, 0, -8000, 0), api.ErrRange},
		{"the joint of the middle beyond", v, pose(-far+3000, 0, -far+999, 0, -far+9, 0, 0, 0), api.ErrRange},
		{"the joint of the middle at the limit", v, pose(-far+3000, 0, -far+1000, 0, -far+9, 5, 0, 0), api.OK},
		{"the last joint beyond", v, pose(0, 0, -3000, 0, -far+999, 0, 0, 0), api.ErrRange},
		{"the tail beyond", v, pose(0, 0, -3000, 0, -7000, 0, 8-far, 0), api.OK},
		{"a vehicle that is not valid", api.Vehicle{}, good, api.ErrArg},
		{"a vehicle that is not valid, and no pose", api.Vehicle{}, api.Pose{}, api.ErrArg},
		{"too many units", row(13), good, api.ErrMany},
	} {
		checkErr(t, x.what, chain.CheckPose(x.v, x.p), x.want)
	}
}

// P3.3
func TestCheckPoseByChance(t *testing.T) {
	r := chance(3)
	seen := map[bool]int{}
	for round := range 4000 {
		most := []int64{100, 1000, size}[round%3]
		v := anyVehicle(r, 4, most)
		p := api.Pose{Lead: []api.Point{anyPoint(r, far), pt(far-from(r, -1, 3*most), 0), pt(0, from(r, -1, 3*most)-far)}[r.IntN(3)]}
		for range v.Units {
			p.Axles = append(p.Axles, near(r, p.Lead, []int64{1, 2 * most}[r.IntN(2)]))
		}
		ok := isPoseOf(v, p)
		seen[ok]++
		if got := chain.CheckPose(v, p) == api.OK; got != ok {
			t.Errorf("CheckPose of %v and %v: %v", v, p, got)
		}
	}
	if seen[false] < 500 || seen[true] < 500 {
		t.Errorf("the poses are too much alike: %v", seen)
	}
}

// P3.4
func TestJoint(t *testing.T) {
	for i, want := range pts(0, 0, -4000, 0, -12000, 0) {
		p, e := chain.Joint(example(), examplePose(), i)
		check(t, "Joint of the example", p, e, want, api.OK)
	}
	// 600 ahead of the axle, which is 1000 behind; then 450 behind an axle that is turned to the side.
	v, p := of(unit(0, 1000, -600), steered(unit(1, 500, 200), 500)), pose(0, 0, -1000, 0, -400, 250)
	for i, want := range pts(0, 0, -400, 0, -400, 700) {
		got, e := chain.Joint(v, p, i)
		check(t, "Joint", got, e, want, api.OK)
	}
	for _, i := range []int{-1, 3, math.MinInt, math.MaxInt} {
		got, e := chain.Joint(v, p, i)
		check(t, "Joint of no unit", got, e, api.Point{}, api.ErrRange)
	}
	got, e := chain.Joint(row(2), pose(0, 0, -3000, 0, 999-far, 0), 2)
	check(t, "a tail beyond", got, e, api.Point{}, api.ErrOver)
	got, e = chain.Joint(row(2), pose(0, 0, -3000, 0, 999-far, 0), 3)
	check(t, "behind a tail beyond", got, e, api.Point{}, api.ErrRange)
	got, e = chain.Joint(row(2), pose(0, 0, -3000, 0, 1000-far, 0), 2)
	check(t, "a tail at the limit", got, e, pt(-far, 0), api.OK)
}

// P3.4
func TestPlace(t *testing.T) {
	v, p := example(), pose(0, 0, -2400, -3200, -2400, -4200)
	for _, x := range []struct {
		what string
		i    int
		x, y int64
		want api.Point
	}{
		{"the axle", 0, 0, 0, pt(-2400, -3200)},
		{"ahead", 0, 10, 0, pt(-2394, -3192)},
		{"behind", 0, -10, 0, pt(-2406, -3208)},
		{"to the left", 0, 0, 10, pt(-2408, -3194)},
		{"to the right", 0, 0, -10, pt(-2392, -3206)},
		{"the joint", 0, 4000, 0, pt(0, 0)},
		{"of the last unit", 1, 1000, 5, pt(-2405, -3200)},
		{"as far as it may be", 1, far, -far, pt(far-2400, far-4200)},
	} {
		got, e := chain.Place(v, p, x.i, x.x, x.y)
		check(t, x.what, got, e, x.want, api.OK)
	}
	for _, x := range []struct {
		what string
		i    int
		x, y int64
		want api.Errno
	}{
		{"no unit", 2, 0, 0, api.ErrRange},
		{"the least number of a unit", math.MinInt, 0, 0, api.ErrRange},
		{"below", -1, 0, 0, api.ErrRange},
		{"x beyond", 0, far + 1, 0, api.ErrRange},
		{"x below", 0, -far - 1, 0, api.ErrRange},
		{"y beyond", 0, 0, far + 1, api.ErrRange},
		{"y below", 0, 0, -far - 1, api.ErrRange},
		{"the least x", 0, math.MinInt64, 0, api.ErrRange},
		{"the greatest y", 0, 0, math.MaxInt64, api.ErrRange},
		{"a place beyond", 1, 0, far, api.ErrOver},
	} {
		got, e := chain.Place(v, p, x.i, x.x, x.y)
		check(t, x.what, got, e, api.Point{}, x.want)
	}
}

// P3.6
func TestBody(t *testing.T) {
	b, e := chain.Body(example(), examplePose(), 1)
	checkPoints(t, "the example", b, e, pts(-14000, -1500, -3000, -1500, -3000, 1500, -14000, 1500), api.OK)
	b, e = chain.Body(example(), examplePose(), 0)
	checkPoints(t, "the first unit", b, e, pts(-5000, -1250, 1000, -1250, 1000, 1250, -5000, 1250), api.OK)
	u := unit(0, 500, 0)
	b, e = chain.Body(of(u), pose(0, 0, 300, 400), 0)
	checkPoints(t, "without a width", b, e, pts(0, 0, 300, 400), api.OK)
	u.Front, u.Rear, u.Width = 50, 100, 10
	b, e = chain.Body(of(u), pose(0, 0, 300, 400), 0)
	checkPoints(t, "aslant", b, e, pts(-38, -34, -22, -46, 368, 474, 352, 486), api.OK)
	b, e = chain.Body(of(steered(u, 500)), pose(0, 0, 0, 250), 0)
	checkPoints(t, "steered: as long as without", b, e, pts(-10, -50, 10, -50, 10, 600, -10, 600), api.OK)
	for _, i := range []int{-1, 2, math.MinInt, math.MaxInt} {
		b, e := chain.Body(example(), examplePose(), i)
		checkPoints(t, "no unit", b, e, nil, api.ErrRange)
	}
	for _, p := range []api.Pose{pose(far-49, 0, far-549, 0), pose(far-599, 0, far-99, 0), pose(0, far-9, 500, far-9), pose(0, 9-far, 500, 9-far)} {
		b, e := chain.Body(of(u), p, 0)
		checkPoints(t, "a corner beyond", b, e, nil, api.ErrOver)
	}
	b, e = chain.Body(of(u), pose(far-50, far-10, far-550, far-10), 0)
	checkPoints(t, "corners at the limit", b, e, pts(far-650, far-20, far, far-20, far, far, far-650, far), api.OK)
}

// P3.6
func TestLoadLine(t *testing.T) {
	v := of(unit(0, 1000, 0), steered(unit(1, 1000, 0), 400), steered(unit(2, 2000, 0), 100))
	p := pose(0, 0, -1000, 0, -1000, 600, 800, 1000)
	for _, x := range []struct {
		what        string
		first, last int
		want        []api.Point
	}{
		{"on the first unit: from its joint", 0, 0, pts(0, 0, -1000, 0)},
		{"on one of the middle", 1, 1, pts(-1000, 0, -1000, 1000)},
		{"on the last one", 2, 2, pts(-1000, 1000, 1000, 1000)},
		{"on two units: from the middle of the axles", 0, 1, pts(-1000, 0, -1000, 1000)},
		{"on two others", 1, 2, pts(-1000, 1000, 1000, 1000)},
		{"on all", 0, 2, pts(-1000, 0, 1000, 1000)},
	} {
		front, rear, e := chain.LoadLine(loaded(v, x.first, x.last), p)
		checkPoints(t, x.what, []api.Point{front, rear}, e, x.want, api.OK)
	}
	front, rear, e := chain.LoadLine(example(), examplePose())
	checkPoints(t, "the example", []api.Point{front, rear}, e, pts(-4000, 0, -12000, 0), api.OK)
	// The middle of the axles is 400 behind the point that is pulled.
	v = of(steered(unit(0, 1000, -1000), 400), steered(unit(0, 1000, 0), 400))
	for _, x := range []struct {
		what        string
		first, last int
		p           api.Pose
		want        api.Errno
	}{
		{"the front beyond", 0, 1, pose(far-600, 0, far-399, 0, 0, 0), api.ErrOver},
		{"the front at the limit", 0, 1, pose(far-600, 0, far-400, 0, 0, 0), api.OK},
		{"the rear beyond", 0, 1, pose(0, 0, 9, 0, 0, 399-far), api.ErrOver},
		{"the rear beyond, on one unit", 1, 1, pose(0, 0, 9, 0, 0, 399-far), api.ErrOver},
		{"what is not on the line beyond", 0, 0, pose(0, 0, 9, 0, 0, 399-far), api.OK},
	} {
		front, rear, e := chain.LoadLine(loaded(v, x.first, x.last), x.p)
		checkErr(t, x.what, e, x.want)
		if e != api.OK && (front != api.Point{} || rear != api.Point{}) {
			t.Errorf("%s: %v, %v", x.what, front, rear)
		}
	}
}

// P3.6: a right angle is not folded, more is; all neighbours are looked at.
func TestFolded(t *testing.T) {
	v := of(slices.Repeat([]api.Unit{unit(0, 1000, 0)}, 3)...)
	for _, x := range []struct {
		what string
		p    api.Pose
		want bool
	}{
		{"straight", pose(0, 0, -1000, 0, -2000, 0, -3000, 0), false},
		{"a right angle", pose(0, 0, -1000, 0, -1000, 1000, -1000, 2000), false},
		{"two right angles", pose(0, 0, -1000, 0, -1000, 1000, 0, 1000), false},
		{"two right angles to both sides", pose(0, 0, -1000, 0, -1000, 1000, -2000, 1000), false},
		{"a little less", pose(0, 0, -1000, 0, -1001, 1000, -1001, 2000), false},
		{"a little more", pose(0, 0, -1000, 0, -999, 1000, -999, 2000), true},
		{"a little more to the right", pose(0, 0, -1000, 0, -999, -1000, -999, -2000), true},
		{"a little more of the last unit", pose(0, 0, -1000, 0, -1000, 1000, 0, 999), true},
		{"back", pose(0, 0, -1000, 0, 0, 0, 1000, 0), true},
		{"back at the end", pose(0, 0, 0, 1000, 0, 2000, 0, 1000), true},
		{"far apart", pose(far, far, -far, -far, 0, 0, far, far), true},
		{"far apart, straight", pose(far, far, 1, 1, 1-far, 1-far, -far, -far), false},
	} {
		folded, e := chain.Folded(v, x.p)
		check(t, x.what, folded, e, x.want, api.OK)
	}
	for _, p := range []api.Pose{pose(0, 0, 0, -9), pose(-5, -5, far, 7)} {
		folded, e := chain.Folded(of(unit(0, 1000, 0)), p)
		check(t, "one unit", folded, e, false, api.OK)
	}
}

// P3.4, P3.6
func TestPosesByChance(t *testing.T) {
	r := chance(4)
	seen := map[bool]int{}
	for round := range 2000 {
		most := []int64{100, 1000, 20000, size}[round%4]
		v := anyVehicle(r, 5, most)
		p := anyPose(t, r, v, []int64{most, far}[round/4%2])
		for i := range len(v.Units) + 1 {
			got, e := chain.Joint(v, p, i)
			want, wantErr := jointOf(v, p, i)
			check(t, "Joint by chance", got, e, want, wantErr)
		}
		i, at := r.IntN(len(v.Units)), anyPoint(r, []int64{most, far}[r.IntN(2)])
		got, e := chain.Place(v, p, i, at.X, at.Y)
		want, wantErr := placeOf(v, p, i, at.X, at.Y)
		check(t, "Place by chance", got, e, want, wantErr)
		body, e := chain.Body(v, p, i)
		wantBody, wantErr := bodyOf(v, p, i)
		checkPoints(t, "Body by chance", body, e, wantBody, wantErr)
		front, rear, e := chain.LoadLine(v, p)
		wantLine, wantErr := loadLineOf(v, p)
		check(t, "LoadLine by chance", [2]api.Point{front, rear}, e, wantLine, wantErr)
		folded, e := chain.Folded(v, p)
		check(t, "Folded by chance", folded, e, foldedOf(t, v, p), api.OK)
		seen[folded]++
	}
	if seen[false] < 200 || seen[true] < 200 {
		t.Errorf("the poses are too much alike: %v", seen)
	}
}

// P3.12: corners are as far apart as the body is wide and long, and it contains what is between them.
func TestBodies(t *testing.T) {
	r := chance(5)
	seen := 0
	for round := range 6000 {
		most := []int64{100, 1000, 20000, size}[round%4]
		v := anyVehicle(r, 3, most)
		p := anyPose(t, r, v, far/4)
		i := r.IntN(len(v.Units))
		if r.IntN(2) == 0 {
			p.Axles[i] = near(r, must[api.Point](t, "Joint")(chain.Joint(v, p, i)), most/8+1)
		}
		if chain.CheckPose(v, p) != api.OK {
			continue
		}
		u := v.Units[i]
		body, e := chain.Body(v, p, i)
		if e != api.OK {
			continue
		}
		grown, e := plane.Grow(body, 1)
		if e != api.OK {
			continue
		}
		n, long := pulledOf(u), u.Front+u.Length+u.Rear
		at := pt(n+u.Front-from(r, 0, long), from(r, -u.Width, u.Width))
		place := must[api.Point](t, "Place")(chain.Place(v, p, i, at.X, at.Y))
		if !must[bool](t, "Inside")(plane.Inside(grown, place)) {
			t.Errorf("%v of the unit %d of %v in %v is not in its body", at, i, v, p)
		}
		d := distance(t, must[api.Point](t, "Joint")(chain.Joint(v, p, i)), p.Axles[i])
		if 16*d < long || 16*d < u.Width {
			continue
		}
		seen++
		c := must[[]api.Point](t, "corners")(cornersOf(v, p, i))
		if amount(distance(t, c[0], c[1])-2*u.Width) > 4 || amount(distance(t, c[0], c[2])-long) > 4 || amount(distance(t, c[1], c[3])-long) > 4 {
			t.Errorf("the unit %d of %v in %v has the corners %v", i, v, p, c)
		}
		if slices.ContainsFunc(c, func(q api.Point) bool { return !must[bool](t, "Inside")(plane.Inside(body, q)) }) {
			t.Errorf("the body %v has not the corners %v", body, c)
		}
	}
	if seen < 1000 {
		t.Errorf("only %d bodies were looked at", seen)
	}
}
