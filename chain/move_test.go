package chain_test

import (
	"math"
	"slices"
	"testing"

	"gooseneck/api"
	"gooseneck/chain"
)

// P3.5
func TestStep(t *testing.T) {
	turned := of(unit(0, 1010, 0), unit(1, 500, 0))
	behind := pose(0, 0, -1010, 0, -1510, 0)
	for _, x := range []struct {
		what  string
		v     api.Vehicle
		p     api.Pose
		lead  api.Point
		steer []int
		want  api.Pose
	}{
		{"the example", example(), examplePose(), pt(0, 3000), []int{0, 0}, pose(0, 3000, -3200, 600, -9177, 73)},
		{"straight ahead", example(), examplePose(), pt(1000, 0), []int{0, 0}, pose(1000, 0, -3000, 0, -9000, 0)},
		{"not at all", example(), examplePose(), pt(0, 0), []int{0, 0}, examplePose()},
		{"pushed back", example(), examplePose(), pt(-1000, 0), []int{0, 0}, pose(-1000, 0, -5000, 0, -11000, 0)},
		{"behind the axle", example(), examplePose(), pt(-4001, 0), []int{0, 0}, pose(-4001, 0, -1, 0, -6001, 0)},
		// The turn of the half 1 / 10 is 99 20 101.
		{"steered", turned, pose(0, 0, -1010, 0, -1290, -600), pt(0, 0), []int{40, 0}, pose(0, 0, -990, -200, -1290, -600)},
		{"steered to the other side", turned, pose(0, 0, -1010, 0, -1590, 1000), pt(0, 0), []int{-40, 0}, pose(0, 0, -990, 200, -1290, 600)},
		{"steered behind", turned, behind, pt(0, 0), []int{0, 40}, pose(0, 0, -1010, 0, -1500, -99)},
		{"steered by one", turned, behind, pt(5, 0), []int{1, -1}, pose(5, 0, -1005, -5, -1505, 2)},
		{"a joint ahead of the axle", of(unit(0, 1000, -600), unit(1, 500, 0)), pose(0, 0, -1000, 0, -900, 0), pt(0, 0), []int{0, 0}, pose(0, 0, -1000, 0, -900, 0)},
		{"a joint behind the axle", of(unit(0, 1000, 600), unit(1, 500, 0)), pose(0, 0, -1000, 0, -2100, 0), pt(7, 0), []int{0, 0}, pose(7, 0, -993, 0, -2093, 0)},
		{"a joint on the side of the point that is pulled", of(steered(unit(0, 1000, 0), 400), unit(1, 500, 0)), pose(0, 0, -600, 0, -1500, 0), pt(7, 0), []int{0, 0}, pose(7, 0, -593, 0, -1493, 0)},
	} {
		p, e := chain.Step(x.v, x.p, x.lead, x.steer)
		checkPose(t, x.what, p, e, x.want, api.OK)
	}
}

// P3.5: the errors in their order.
func TestStepErrors(t *testing.T) {
	v, none, p := row(2), []int{0, 0}, pose(0, 0, -3000, 0, -7000, 0)
	for _, x := range []struct {
		what  string
		v     api.Vehicle
		p     api.Pose
		lead  api.Point
		steer []int
		want  api.Errno
	}{
		{"a vehicle that is not valid", api.Vehicle{}, api.Pose{}, pt(far+1, 0), nil, api.ErrArg},
		{"too many units", row(13), api.Pose{}, pt(far+1, 0), nil, api.ErrMany},
		{"a pose that is not valid", v, api.Pose{}, pt(far+1, 0), nil, api.ErrRange},
		{"a lead beyond", v, p, pt(far+1, 0), nil, api.ErrArg},
		{"a lead beyond in Y", v, p, pt(0, math.MinInt64), none, api.ErrArg},
		{"no steering", v, p, pt(-3000, 0), nil, api.ErrEqual},
		{"a number too few", v, p, pt(-3000, 0), []int{99}, api.ErrEqual},
		{"a number too many", v, p, pt(-3000, 0), []int{0, 0, 99}, api.ErrEqual},
		{"too much steering", v, p, pt(-3000, 0), []int{41, 0}, api.ErrRange},
		{"too much steering to the right", v, p, pt(-3000, 0), []int{0, -41}, api.ErrRange},
		{"the least number", v, p, pt(0, 0), []int{0, math.MinInt}, api.ErrRange},
		{"the greatest number", v, p, pt(0, 0), []int{math.MaxInt, 0}, api.ErrRange},
		{"more than Most of the unit", example(), examplePose(), pt(10, 0), []int{0, 11}, api.ErrRange},
		{"more than Most to the right", example(), examplePose(), pt(10, 0), []int{0, -11}, api.ErrRange},
		{"some where there is none", example(), examplePose(), pt(10, 0), []int{1, 0}, api.ErrRange},
		{"a lead at the first axle", v, p, pt(-3000, 0), none, api.ErrZero},
		{"a joint at the second axle", v, pose(0, 0, -3000, 0, -4000, 1), pt(0, 0), none, api.OK},
		{"a joint that comes to the second axle", v, pose(1, 0, -2999, 0, -4000, 0), pt(0, 0), none, api.ErrZero},
		{"the axle beyond", row(1), pose(0, far-4000, 0, far), pt(0, far-2000), []int{0}, api.ErrOver},
		{"an axle that is beyond until it is steered", row(1), pose(0, far-4000, 0, far), pt(0, far-2990), []int{40}, api.ErrOver},
		{"an axle that is steered beyond", row(1), pose(0, far-1000, 3000, far-100), pt(0, far-100), []int{40}, api.ErrOver},
		{"an axle that is steered to the other side", row(1), pose(0, far-1000, 3000, far-100), pt(0, far-100), []int{-40}, api.OK},
		{"a joint beyond", v, pose(0, far-4000, 0, far-1000, 0, 0), pt(0, far-3999), none, api.ErrOver},
		{"the second axle beyond", v, pose(0, far-8000, 0, far-5000, 0, far), pt(0, far-6500), none, api.ErrOver},
		{"the tail beyond", v, pose(0, far-8000, 0, far-5000, 0, far-1000), pt(0, far-7999), none, api.OK},
	} {
		q, e := chain.Step(x.v, x.p, x.lead, x.steer)
		if e == api.OK && x.want == api.OK {
			continue
		}
		checkPose(t, x.what, q, e, api.Pose{}, x.want)
	}
}

// P3.5
func TestBack(t *testing.T) {
	v, straightRow := row(2), pose(0, 0, -3000, 0, -7000, 0)
	turned := of(unit(0, 1000, 1010), unit(1, 500, 1010))
	for _, x := range []struct {
		what  string
		v     api.Vehicle
		p     api.Pose
		tail  api.Point
		steer []int
		want  api.Pose
	}{
		{"not at all", v, straightRow, pt(-8000, 0), []int{0, 0}, straightRow},
		{"straight back", v, straightRow, pt(-8300, 0), []int{0, 0}, pose(-300, 0, -3300, 0, -7300, 0)},
		{"ahead", v, straightRow, pt(-7500, 0), []int{0, 0}, pose(500, 0, -2500, 0, -6500, 0)},
		{"to the side", v, pose(0, 0, -3400, 0, -7000, 0), pt(-7600, -800), []int{0, 0}, pose(-2800, -800, -4600, 1600, -7000, 0)},
		// The turn of the half 1 / 10 is 99 20 101.
		{"steered", turned, pose(0, 0, -828, 1915, -2510, 0), pt(-3520, 0), []int{0, 40}, pose(-834, 1907, -1434, 1107, -2530, 200)},
		{"steered in front", turned, pose(0, 0, -1000, 0, -2510, 0), pt(-3520, 0), []int{-40, 0}, pose(-40, -398, -1020, -200, -2510, 0)},
		{"the least Behind", of(unit(0, 100, 100)), pose(0, 0, 0, 100), pt(0, 200), []int{0}, pose(0, 0, 0, 100)},
		{"an axle that is not where it has to be", of(unit(0, 400, 500)), pose(5, 5, 3000, 4000), pt(0, 0), []int{0}, pose(540, 720, 300, 400)},
	} {
		p, e := chain.Back(x.v, x.p, x.tail, x.steer)
		checkPose(t, x.what, p, e, x.want, api.OK)
	}
}

// P3.5: the errors in their order.
func TestBackErrors(t *testing.T) {
	v, none, p := row(2), []int{0, 0}, pose(0, 0, -3000, 0, -7000, 0)
	short := of(unit(0, 3000, 1000), unit(0, 3000, 99))
	// With such units a little error of the last joints becomes a great one of the first ones.
	long := of(slices.Repeat([]api.Unit{unit(0, 100, size)}, 3)...)
	for _, x := range []struct {
		what  string
		v     api.Vehicle
		p     api.Pose
		tail  api.Point
		steer []int
		want  api.Errno
	}{
		{"a vehicle that is not valid", api.Vehicle{}, api.Pose{}, pt(far+1, 0), nil, api.ErrArg},
		{"too many units", row(13), api.Pose{}, pt(far+1, 0), nil, api.ErrMany},
		{"a pose that is not valid", short, api.Pose{}, pt(far+1, 0), nil, api.ErrRange},
		{"a tail beyond", short, p, pt(far+1, 0), nil, api.ErrArg},
		{"a tail beyond in Y", short, p, pt(0, math.MaxInt64), none, api.ErrArg},
		{"too little Behind", short, p, pt(-7000, 0), nil, api.ErrState},
		{"too little Behind of the first unit", of(unit(0, 3000, 99), unit(0, 3000, 1000)), p, pt(-7000, 0), []int{99}, api.ErrState},
		{"a Behind below 0", of(unit(0, 3000, -1000)), pose(0, 0, -3000, 0), pt(-7000, 0), []int{99}, api.ErrState},
		{"steering by the joint", of(unit(0, 3000, 1000), steered(unit(0, 3000, 1000), 1)), p, pt(-7000, 0), nil, api.ErrState},
		{"steering by the joint in front", of(steered(unit(0, 3000, 1000), 900), unit(0, 3000, 1000)), p, pt(-7000, 0), []int{99, 99}, api.ErrState},
		{"the example", example(), examplePose(), pt(-12000, 0), none, api.ErrState},
		{"no steering", v, p, pt(-7000, 0), nil, api.ErrEqual},
		{"a number too many", v, p, pt(-7000, 0), []int{0, 0, 99}, api.ErrEqual},
		{"too much steering", v, p, pt(-7000, 0), []int{0, 41}, api.ErrRange},
		{"too much steering to the right", v, p, pt(-7000, 0), []int{-41, 0}, api.ErrRange},
		{"the least number", v, p, pt(-7000, 0), []int{math.MinInt, 0}, api.ErrRange},
		{"a tail at the last axle", v, p, pt(-7000, 0), none, api.ErrZero},
		{"a joint that comes to the first axle", v, pose(0, 0, -3900, 0, -7000, 0), pt(-7900, 0), none, api.ErrZero},
		{"the last axle beyond", v, pose(0, 0, 0, 9, 0, far), pt(0, far-999), none, api.ErrOver},
		{"the last axle beyond until it is steered", v, pose(0, 0, 0, 9, 0, far), pt(0, far-995), []int{0, 40}, api.ErrOver},
		{"the last axle steered beyond", v, pose(0, 0, 0, 9, 9000, far-100), pt(0, far-100), []int{0, 40}, api.ErrOver},
		{"a joint beyond", v, pose(0, 0, 0, 9, 0, far), pt(0, far-3999), none, api.ErrOver},
		{"the lead beyond", v, pose(3000, far-5, 0, far-5, 0, far-4000), pt(0, far-7999), none, api.ErrOver},
		{"the lead at the limit", v, pose(3000, far-5, 0, far-5, 0, far-4000), pt(0, far-8000), none, api.OK},
		{"points of no valid pose", long, straight(t, long, pt(0, far-20000), pt(-10000, far-20000)), pt(-393516, far), []int{0, 1, 0}, api.ErrZero},
	} {
		q, e := chain.Back(x.v, x.p, x.tail, x.steer)
		if e == api.OK && x.want == api.OK {
			continue
		}
		checkPose(t, x.what, q, e, api.Pose{}, x.want)
	}
}

// P3.5
func TestMovesByChance(t *testing.T) {
	r := chance(6)
	steps, backs := map[api.Errno]int{}, map[api.Errno]int{}
	for round := range 6000 {
		most := []int64{100, 1000, 20000, size}[round%4]
		v := anyVehicle(r, 6, most)
		p := anyPose(t, r, v, []int64{most, far}[round/4%2])
		lead := []api.Point{near(r, p.Lead, 100), near(r, p.Axles[0], 1), near(r, p.Lead, 3*most)}[r.IntN(3)]
		lead = pt(min(far, max(-far, lead.X)), min(far, max(-far, lead.Y)))
		steer := anySteer(r, v)
		q, e := chain.Step(v, p, lead, steer)
		want, wantErr := stepOf(v, p, lead, steer)
		checkPose(t, "Step by chance", q, e, want, wantErr)
		steps[e]++

		v = backed(r, v, most)
		p = anyPose(t, r, v, []int64{most, far}[round/4%2])
		tail := near(r, p.Axles[len(p.Axles)-1], []int64{1, 3 * most}[r.IntN(2)])
		tail = pt(min(far, max(-far, tail.X)), min(far, max(-far, tail.Y)))
		q, e = chain.Back(v, p, tail, steer)
		want, wantErr = backOf(v, p, tail, steer)
		checkPose(t, "Back by chance", q, e, want, wantErr)
		backs[e]++
	}
	for _, seen := range []map[api.Errno]int{steps, backs} {
		if seen[api.OK] < 1000 || seen[api.ErrZero] < 20 || seen[api.ErrOver] < 20 {
			t.Errorf("the moves are too much alike: %v", seen)
		}
	}
}

// P3.7
func TestFollow(t *testing.T) {
	v, p := example(), examplePose()
	corner := pts(0, 0, 1000, 0, 1000, 500)
	for _, x := range []struct {
		what  string
		guide []api.Point
		s, d  int64
		leads []api.Point
	}{
		{"the end between", pts(0, 0, 1000, 0), 0, 300, pts(0, 0, 300, 0, 600, 0, 900, 0, 1000, 0)},
		{"the end at a step", pts(0, 0, 1000, 0), 0, 500, pts(0, 0, 500, 0, 1000, 0)},
		{"from farther on", pts(0, 0, 1000, 0), 100, 450, pts(100, 0, 550, 0, 1000, 0)},
		{"from just ahead of the end", pts(0, 0, 1000, 0), 999, 300, pts(999, 0, 1000, 0)},
		{"from the end on", pts(0, 0, 1000, 0), 1000, 300, pts(1000, 0)},
		{"by a step that is as long", pts(0, 0, 1000, 0), 0, 1000, pts(0, 0, 1000, 0)},
		{"by a longer step", pts(0, 0, 1000, 0), 0, far, pts(0, 0, 1000, 0)},
		{"around a corner", corner, 700, 200, pts(700, 0, 900, 0, 1000, 100, 1000, 300, 1000, 500)},
		{"a guide of one point", pts(7, 8), 0, 1, pts(7, 8)},
		{"a guide without a length", pts(7, 8, 7, 8), 0, far, pts(7, 8)},
	} {
		want := []api.Pose{}
		at := p
		for _, lead := range x.leads {
			at = must[api.Pose](t, "Step")(chain.Step(v, at, lead, []int{0, 0}))
			want = append(want, at)
		}
		got, e := chain.Follow(v, p, x.guide, x.s, x.d, nil)
		checkPoses(t, x.what, got, e, want, api.OK)
		got, e = chain.Follow(v, p, x.guide, x.s, x.d, [][]int{})
		checkPoses(t, x.what+", with an empty list", got, e, want, api.OK)
		got, e = chain.Follow(v, p, x.guide, x.s, x.d, slices.Repeat([][]int{{0, 0}}, len(x.leads)))
		checkPoses(t, x.what+", with all steering 0", got, e, want, api.OK)
	}
	steer := [][]int{{0, -10}, {0, 5}, {0, 0}}
	want := []api.Pose{}
	at := p
	for k, lead := range pts(0, 0, 800, 0, 1000, 500) {
		at = must[api.Pose](t, "Step")(chain.Step(v, at, lead, steer[k]))
		want = append(want, at)
	}
	got, e := chain.Follow(v, p, corner, 0, 800, steer)
	checkPoses(t, "with steering", got, e, want, api.OK)
}

// P3.7: the errors in their order.
func TestFollowErrors(t *testing.T) {
	v, p, guide := row(2), pose(0, 0, -3000, 0, -7000, 0), pts(0, 0, 1000, 0)
	many, bad := make([]api.Point, 257), pts(0, 0, far+1, 0)
	for _, x := range []struct {
		what  string
		v     api.Vehicle
		p     api.Pose
		guide []api.Point
		s, d  int64
		steer [][]int
		want  api.Errno
	}{
		{"a vehicle that is not valid", api.Vehicle{}, api.Pose{}, many, -1, 0, [][]int{nil}, api.ErrArg},
		{"too many units", row(13), api.Pose{}, bad, -1, 0, [][]int{nil}, api.ErrMany},
		{"a pose that is not valid", v, api.Pose{}, many, -1, 0, [][]int{nil}, api.ErrRange},
		{"a guide of too many points", v, p, many, -1, 0, [][]int{nil}, api.ErrMany},
		{"a guide with a point beyond", v, p, bad, -1, 0, [][]int{nil}, api.ErrArg},
		{"no guide", v, p, nil, -1, 0, [][]int{nil}, api.ErrNone},
		{"an empty guide", v, p, []api.Point{}, 0, 1, nil, api.ErrNone},
		{"no step", v, p, guide, 0, 0, [][]int{nil}, api.ErrRange},
		{"a step back", v, p, guide, 0, -1, nil, api.ErrRange},
		{"a step too long", v, p, guide, 0, far + 1, nil, api.ErrRange},
		{"the least step", v, p, guide, 0, math.MinInt64, nil, api.ErrRange},
		{"the greatest step", v, p, guide, 0, math.MaxInt64, nil, api.ErrRange},
		{"from below", v, p, guide, -1, 300, [][]int{nil}, api.ErrRange},
		{"from behind the end", v, p, guide, 1001, 300, nil, api.ErrRange},
		{"from the least number", v, p, guide, math.MinInt64, 1, nil, api.ErrRange},
		{"from the greatest number", v, p, guide, math.MaxInt64, 1, nil, api.ErrRange},
		{"a step too many", v, p, pts(0, 0, 2000, 0), 0, 1, [][]int{nil}, api.ErrMany},
		{"far too many steps", v, p, slices.Repeat(pts(-far, -far, far, far), 128), 0, 1, nil, api.ErrMany},
		{"steering of a step too few", v, p, guide, 0, 500, [][]int{nil, nil}, api.ErrEqual},
		{"steering of a step too many", v, p, guide, 0, 500, [][]int{nil, nil, nil, nil}, api.ErrEqual},
		{"a number too few", v, p, guide, 0, 500, [][]int{{0, 0}, {0, 0}, {0}}, api.ErrEqual},
		{"no numbers", v, p, guide, 0, 500, [][]int{{0, 0}, {}, {0, 0}}, api.ErrEqual},
		{"too much steering", v, p, guide, 0, 500, [][]int{{0, 0}, {0, 0}, {0, 41}}, api.ErrRange},
		{"too much steering first", v, p, guide, 0, 500, [][]int{{0, 0}, {0, -41}, {0}}, api.ErrRange},
		{"a lead at the axle", v, p, pts(1, 1, -3000, 0), 0, far, nil, api.OK},
		{"a lead at the axle first", v, p, pts(-3000, 0, 0, 0), 0, far, [][]int{{0, 0}, {0}}, api.ErrZero},
		{"a lead at the axle ahead of wrong steering", v, p, pts(0, 0, 3000, 0, 0, 0, 3000, 0), 0, 3000, [][]int{{0, 0}, {0, 0}, {0, 0}, {0}}, api.ErrZero},
		{"a lead at the axle, with wrong steering", v, p, pts(0, 0, 3000, 0, 0, 0, 3000, 0), 0, 3000, [][]int{{0, 0}, {0, 0}, {0}, {0, 41}}, api.ErrEqual},
		{"beyond", v, pose(far, 0, far-1, 0, 0, 0), pts(far-9, 0, 0, 0), 0, far, nil, api.ErrOver},
	} {
		got, e := chain.Follow(x.v, x.p, x.guide, x.s, x.d, x.steer)
		if e == api.OK && x.want == api.OK {
			continue
		}
		checkPoses(t, x.what, got, e, nil, x.want)
	}
	got, e := chain.Follow(v, p, pts(0, 0, 1999, 0), 0, 1, nil)
	if e != api.OK || len(got) != 2000 || got[1999].Lead != pt(1999, 0) {
		t.Errorf("as many steps as there may be: %d, %d", len(got), e)
	}
	got, e = chain.Follow(v, p, slices.Repeat(pts(-far, -far, far, far), 128), 255*distance(t, pt(-far, -far), pt(far, far))-1999, 1, nil)
	if e != api.OK || len(got) != 2000 || got[1999].Lead != pt(far, far) {
		t.Errorf("the end of the longest guide: %d, %d", len(got), e)
	}
}
