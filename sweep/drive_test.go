package sweep_test

import (
	"math"
	"slices"
	"testing"

	"gooseneck/api"
	"gooseneck/chain"
	"gooseneck/sweep"
)

// simple is the family of the chapter's examples.
func simple() api.Family {
	f := family(example(), choices(to(2000, 0), to(2000, 4000)))
	f.Margin, f.Obstacles = 100, wall(0, 100)
	return f
}

// P5.5
func TestCheckFamilyMany(t *testing.T) {
	row := func(n int) []api.Choice { return slices.Repeat(choices(to(9, 9)), n) }
	rows := func(l ...int) [][]api.Choice {
		var all [][]api.Choice
		for _, n := range l {
			all = append(all, row(n))
		}
		return all
	}
	for _, x := range []struct {
		what string
		rows [][]api.Choice
		want api.Errno
	}{
		{"no rows", nil, api.ErrArg},
		{"one choice", rows(1), api.OK},
		{"as many rows as there may be", rows(1, 1, 1, 1, 1, 1, 1, 1), api.OK},
		{"a row too many", rows(1, 1, 1, 1, 1, 1, 1, 1, 1), api.ErrMany},
		{"far too many rows", make([][]api.Choice, 99), api.ErrMany},
		{"as many choices as there may be", rows(6, 1), api.OK},
		{"a choice too many", rows(1, 7), api.ErrMany},
		{"as many guides as there may be", rows(4, 4, 4, 4, 4, 4, 1, 1), api.OK},
		{"too many guides", rows(4, 4, 4, 4, 4, 4, 2), api.ErrMany},
		{"a few guides too many", rows(6, 6, 6, 5, 4), api.ErrMany},
		{"far too many guides", rows(6, 6, 6, 6, 6, 6, 6, 6), api.ErrMany},
		{"almost as many guides", rows(6, 6, 6, 6, 3), api.OK},
		{"a row without choices", rows(3, 0, 3), api.ErrArg},
		{"only such a row", rows(0), api.ErrArg},
		{"a row without choices, and too many guides", rows(0, 6, 6, 6, 6, 6), api.ErrMany},
		{"a row without choices, and a choice too many", rows(0, 7), api.ErrMany},
	} {
		f := family(example())
		f.Rows = x.rows
		checkErr(t, x.what, sweep.CheckFamily(f), x.want)
		f.Step = 0
		checkErr(t, x.what+", and no step", sweep.CheckFamily(f), max(x.want, api.ErrArg))
	}
}

// P5.5
func TestCheckFamily(t *testing.T) {
	with := func(change func(f *api.Family)) api.Family {
		f := family(onRow(2), choices(to(1, 1)), choices(to(2, 2), to(3, 3)))
		change(&f)
		return f
	}
	steer := func(n ...int) api.Family { return with(func(f *api.Family) { f.Rows[1][1].Steer = n }) }
	most := with(func(f *api.Family) { f.Rig.Vehicle.Units[1].Most, f.Rows[0][0].Steer = 7, []int{40, -7} })
	for _, x := range []struct {
		what string
		f    api.Family
		want api.Errno
	}{
		{"the example", simple(), api.OK},
		{"nothing", api.Family{}, api.ErrArg},
		{"no steering", steer(), api.OK},
		{"all steering", steer(40, -40), api.OK},
		{"steering of one unit only", steer(1), api.ErrArg},
		{"steering of too many units", steer(1, 1, 1), api.ErrArg},
		{"too much steering", steer(0, 41), api.ErrArg},
		{"too much steering to the right", steer(-41, 0), api.ErrArg},
		{"far too much steering", steer(0, math.MinInt64), api.ErrArg},
		{"as much as each unit steers", most, api.OK},
		{"a unit that steers less", with(func(f *api.Family) { f.Rig.Vehicle.Units[1].Most, f.Rows[0][0].Steer = 6, []int{40, -7} }), api.ErrArg},
		{"a unit that steers less to the left", with(func(f *api.Family) { f.Rig.Vehicle.Units[1].Most, f.Rows[0][0].Steer = 6, []int{40, 7} }), api.ErrArg},
		{"a point beyond", with(func(f *api.Family) { f.Rows[1][1].To.Y = far + 1 }), api.ErrArg},
		{"a point at the limit", with(func(f *api.Family) { f.Rows[1][1].To.Y = -far }), api.OK},
		{"a point far beyond", with(func(f *api.Family) { f.Rows[0][0].To.X = math.MinInt64 }), api.ErrArg},
		{"back, though it cannot be backed", with(func(f *api.Family) { f.Rig.Vehicle.Units[0].Behind = 0; f.Rows[0][0].Back = true }), api.OK},
		{"the least step", with(func(f *api.Family) { f.Step = 10 }), api.OK},
		{"too little a step", with(func(f *api.Family) { f.Step = 9 }), api.ErrArg},
		{"the greatest step", with(func(f *api.Family) { f.Step = far }), api.OK},
		{"too great a step", with(func(f *api.Family) { f.Step = far + 1 }), api.ErrArg},
		{"a step far beyond", with(func(f *api.Family) { f.Step = math.MaxInt64 }), api.ErrArg},
		{"no margin", with(func(f *api.Family) { f.Margin = 0 }), api.OK},
		{"a margin below 0", with(func(f *api.Family) { f.Margin = -1 }), api.ErrArg},
		{"the greatest margin", with(func(f *api.Family) { f.Margin = size }), api.OK},
		{"too great a margin", with(func(f *api.Family) { f.Margin = size + 1 }), api.ErrArg},
		{"a margin far below", with(func(f *api.Family) { f.Margin = math.MinInt64 }), api.ErrArg},
		{"no start", with(func(f *api.Family) { f.Start = api.Pose{} }), api.ErrArg},
		{"a start of another vehicle", with(func(f *api.Family) { f.Start = start() }), api.ErrArg},
		{"as many obstacles as there may be", with(func(f *api.Family) { f.Obstacles = slices.Repeat(wall(0, 9), 64) }), api.OK},
		{"too many obstacles", with(func(f *api.Family) { f.Obstacles = slices.Repeat(wall(0, 9), 65) }), api.ErrArg},
		{"an obstacle that is not valid", with(func(f *api.Family) { f.Obstacles = wall(9, 0) }), api.ErrArg},
		{"no sections", with(func(f *api.Family) { f.Rig.Sections = nil }), api.ErrArg},
		{"too many sections", with(func(f *api.Family) { f.Rig.Sections = make([]api.Section, 25) }), api.ErrArg},
		{"too many units", with(func(f *api.Family) { f.Rig.Vehicle = row(13) }), api.ErrArg},
		{"a rig that is not valid", with(func(f *api.Family) { f.Rig.Lift = -1 }), api.ErrArg},
	} {
		checkErr(t, x.what, sweep.CheckFamily(x.f), x.want)
	}
}

// P5.5
func TestErrorsOfBeginnings(t *testing.T) {
	f := family(onRow(1), choices(to(9, 9), to(8, 8)), choices(to(7, 7)), choices(to(5, 5), to(4, 4), to(3, 3)))
	many := f
	many.Rows = make([][]api.Choice, 9)
	for _, x := range []struct {
		what    string
		f       api.Family
		choices []int
		want    api.Errno
	}{
		{"the first row", f, []int{1}, api.OK},
		{"two rows", f, []int{0, 0}, api.OK},
		{"all rows", f, []int{1, 0, 2}, api.OK},
		{"no choices", f, nil, api.ErrRange},
		{"a choice too many", f, []int{1, 0, 2, 0}, api.ErrRange},
		{"a choice that is not there", f, []int{2}, api.ErrRange},
		{"a choice that is not there, later", f, []int{0, 1, 0}, api.ErrRange},
		{"a choice that is not there, last", f, []int{0, 0, 3}, api.ErrRange},
		{"a choice below 0", f, []int{0, -1}, api.ErrRange},
		{"a choice far below", f, []int{math.MinInt64}, api.ErrRange},
		{"a choice far beyond", f, []int{0, 0, math.MaxInt64}, api.ErrRange},
		{"a family that is not valid", family(onRow(1)), nil, api.ErrArg},
		{"too many rows", many, []int{9}, api.ErrMany},
	} {
		way, e := sweep.Drive(x.f, x.choices)
		if e != x.want || e != api.OK && way != nil {
			t.Errorf("Drive with %s: %v, %d, want %d", x.what, way, e, x.want)
		}
		checkHit(t, "Try with "+x.what, x.f, x.choices, api.Hit{}, x.want == api.OK, x.want)
	}
}

// P5.5: the poses of pieces, on the X axis.
func TestDrive(t *testing.T) {
	turn := family(onRow(2), choices(to(0, 700)))
	turned := []api.Pose{turn.Start}
	for _, at := range pts(0, 500, 0, 700) {
		turned = append(turned, must[api.Pose](t, "Step")(chain.Step(turn.Rig.Vehicle, turned[len(turned)-1], at, []int{0, 0})))
	}
	steer := family(onRow(2), choices(steered(to(500, 0), 0, 40)))
	bent := must[api.Pose](t, "Step")(chain.Step(steer.Rig.Vehicle, steer.Start, pt(500, 0), []int{0, 40}))
	bentBack := must[api.Pose](t, "Back")(chain.Back(steer.Rig.Vehicle, steer.Start, pt(-2500, 0), []int{-40, 0}))
	for _, x := range []struct {
		what    string
		f       api.Family
		choices []int
		want    []api.Pose
	}{
		{"the example", simple(), []int{0}, forward(1, 0, 500, 1000, 1500, 2000)},
		{"a last step that is shorter", family(onRow(2), choices(to(1200, 0))), []int{0}, forward(2, 0, 500, 1000, 1200)},
		{"a last step of 1", family(onRow(2), choices(to(501, 0))), []int{0}, forward(2, 0, 500, 501)},
		{"one step", family(onRow(2), choices(to(499, 0))), []int{0}, forward(2, 0, 499)},
		{"to where it is", family(onRow(2), choices(to(0, 0))), []int{0}, forward(2, 0, 0)},
		{"two pieces", family(onRow(2), choices(to(600, 0)), choices(to(9, 9), to(700, 0))), []int{0, 1}, forward(2, 0, 500, 600, 700)},
		{"the first of two pieces", family(onRow(2), choices(to(600, 0)), choices(to(9, 9))), []int{0}, forward(2, 0, 500, 600)},
		{"back: the tail is led", family(onRow(2), choices(back(-3600, 0))), []int{0}, forward(2, 0, -500, -1000, -1200)},
		{"back to where the tail is", family(onRow(2), choices(back(-2400, 0))), []int{0}, forward(2, 0, 0)},
		{"there and back", family(onRow(2), choices(to(700, 0)), choices(back(-2400, 0))), []int{0, 0}, forward(2, 0, 500, 700, 200, 0)},
		{"aside", turn, []int{0}, turned},
		{"steered by hand", steer, []int{0}, []api.Pose{steer.Start, bent}},
		{"steered by hand, back", family(onRow(2), choices(steered(back(-2500, 0), -40, 0))), []int{0}, []api.Pose{steer.Start, bentBack}},
		{"through an obstacle", blocked(family(onRow(2), choices(to(700, 0)))), []int{0}, forward(2, 0, 500, 700)},
		{"stuck in the first step", family(example(), choices(back(-9000, 0)), choices(to(700, 0))), []int{0, 0}, forward(1, 0)},
		{"stuck in the second piece", family(example(), choices(to(700, 0)), choices(back(-9000, 0))), []int{0, 0}, forward(1, 0, 500, 700)},
		{"the lead pushes the axle back", family(example(), choices(to(-900, 0))), []int{0}, forward(1, 0, -500, -900)},
	} {
		got, e := sweep.Drive(x.f, x.choices)
		check(t, x.what, got, e, x.want, api.OK)
	}
}

// blocked returns a family that starts within an obstacle.
func blocked(f api.Family) api.Family {
	f.Obstacles = []api.Obstacle{obstacle(-top, top, box(-far, -far, far, far)...)}
	return f
}

// P5.5
func TestTry(t *testing.T) {
	f := family(onRow(2), choices(to(1000, 0), back(-5000, 0)), choices(to(3000, 0), to(9000, 0)), choices(to(12000, 0)))
	f.Obstacles = []api.Obstacle{
		obstacle(0, 9, pt(3500, 600)), obstacle(0, 9, pt(3500, 600)), obstacle(950, 950, pts(6000, -5000, 6000, 5000)...), obstacle(0, 0, pt(-3600, 0)),
	}
	near := func(margin int64) api.Family {
		g := f
		g.Margin = margin
		return g
	}
	above := near(0)
	above.Obstacles = []api.Obstacle{obstacle(1001, 2000, pt(0, 0))}
	for _, x := range []struct {
		what    string
		f       api.Family
		choices []int
		want    api.Hit
	}{
		{"the example", simple(), []int{0}, api.Hit{}},
		{"one piece", near(99), []int{0}, api.Hit{}},
		{"two pieces", near(99), []int{0, 0}, api.Hit{}},
		{"the load, in the second piece", near(99), []int{0, 1}, met(11, 2, 2, 0, 1)},
		{"the load, in the third piece", near(99), []int{0, 0, 0}, met(7, 2, 2, 0, 0, 0)},
		{"the second obstacle is behind the first one", near(100), []int{0, 0, 0}, met(0, 0, 0, 0, 0, 0)},
		{"a greater margin: an earlier step", near(600), []int{0, 0, 0}, met(3, 0, 0, 0, 0)},
		{"a greater margin: an even earlier step", near(1399), []int{0, 0, 0}, met(2, 0, 0, 0, 0)},
		{"a greater margin: an earlier piece", near(1400), []int{0, 0, 0}, met(0, 1, 3, 0)},
		{"back, in the step in which the last unit comes there", near(0), []int{1, 1, 0}, met(2, 1, 3, 1)},
		{"all obstacles are above", above, []int{0, 1, 0}, api.Hit{}},
		{"at the start, in the step behind it", blocked(family(onRow(2), choices(to(0, 0)))), []int{0}, met(0, 0, 0, 0)},
		{"stuck ahead of what it meets", blocked(family(example(), choices(back(9, 9)))), []int{0}, stuck(0, 0)},
	} {
		checkHit(t, x.what, x.f, x.choices, x.want, x.want.Choices == nil, api.OK)
	}
}

// P5.5: why a piece cannot be driven on.
func TestStuck(t *testing.T) {
	point := func(v api.Vehicle, on int, x int64) api.Rig { return rig(v, section(on, 0, 9, pt(x, 0))) }
	at := func(p api.Pose, f api.Family) api.Family {
		f.Start = p
		return f
	}
	cannotBeBacked := func(change func(u *api.Unit)) api.Family {
		f := family(onRow(2), choices(to(9, 0)), choices(back(-3000, 0)))
		change(&f.Rig.Vehicle.Units[1])
		return f
	}
	meets := pose(0, 0, -1000, 0, -1000, 0)
	onto := at(pose(0, 0, -2000, 0), family(example(), choices(to(-3000, 0))))
	onto.Step = 1000
	// The tail is 3,000 behind the lead.
	long := func(x int64) api.Family {
		return at(pose(x, 0, x-1000, 0), family(point(of(unit(2000)), 0, 0), choices(to(x, 0)), choices(back(-far, 0), to(x, 0))))
	}
	for _, x := range []struct {
		what    string
		f       api.Family
		choices []int
		want    api.Hit
	}{
		{"the lead comes to the axle", onto, []int{0}, stuck(1, 0)},
		{"an axle is pushed to the end of the place", at(pose(2000-far, 0, 1000-far, 0), family(point(row(1), 0, 0), choices(to(1000-far, 0)))), []int{0}, api.Hit{}},
		{"an axle is pushed beyond", at(pose(2000-far, 0, 1000-far, 0), family(point(row(1), 0, 0), choices(to(999-far, 0)))), []int{0}, stuck(2, 0)},
		{"a corner comes to the end of the place", at(pose(far-6000, 0, far-7000, 0), family(point(row(1), 0, 5000), choices(to(far-4000, 0)))), []int{0}, api.Hit{}},
		{"a corner comes beyond", at(pose(far-6000, 0, far-7000, 0), family(point(row(1), 0, 5000), choices(to(far-3500, 0)))), []int{0}, stuck(4, 0)},
		{"a tail at the end of the place", long(3000 - far), []int{0, 0}, api.Hit{}},
		{"a tail beyond", long(2999 - far), []int{0, 0}, stuck(0, 0, 0)},
		{"a tail beyond that is not led", long(2999 - far), []int{0, 1}, api.Hit{}},
		{"the corners of the start", at(meets, family(point(meeting(), -1, 0), choices(to(0, 9000)))), []int{0}, stuck(0, 0)},
		{"the corners of the start, and it stays there", at(meets, family(point(meeting(), -1, 0), choices(to(0, 0)), choices(to(0, 0)))), []int{0, 0}, stuck(0, 0)},
		{"too little behind an axle", cannotBeBacked(func(u *api.Unit) { u.Behind = 99 }), []int{0, 0}, stuck(0, 0, 0)},
		{"enough behind an axle", cannotBeBacked(func(u *api.Unit) { u.Behind = 100 }), []int{0, 0}, api.Hit{}},
		{"steered by the joint", cannotBeBacked(func(u *api.Unit) { u.Steer = 1 }), []int{0, 0}, stuck(0, 0, 0)},
	} {
		checkHit(t, x.what, x.f, x.choices, x.want, x.want.Choices == nil, api.OK)
		// Obstacles everywhere come behind this in each step.
		if x.want.Step == 0 && len(x.want.Choices) == 1 {
			checkHit(t, x.what+", blocked", blocked(x.f), x.choices, x.want, false, api.OK)
		}
	}
}

// P5.5: a vehicle must not be folded behind a step; ahead of it, it may be.
func TestFolded(t *testing.T) {
	f := family(onRow(2), choices(to(-1500, 300)))
	p := f.Start
	var way []api.Pose
	for isFolded := false; !isFolded; {
		way = append(way, p)
		x := pt(-500*int64(len(way)), 100*int64(len(way)))
		f.Rows = append(f.Rows, choices(api.Choice{To: x}))
		p = must[api.Pose](t, "Step")(chain.Step(f.Rig.Vehicle, p, x, []int{0, 0}))
		isFolded = must[bool](t, "Folded")(chain.Folded(f.Rig.Vehicle, p))
		if len(way) > 5 {
			t.Fatalf("it is not folded in %v", p)
		}
	}
	f.Rows, f.Step = f.Rows[1:], far
	done := make([]int, len(way))
	checkHit(t, "it is folded", f, done, stuck(0, done...), false, api.OK)
	got, e := sweep.Drive(f, done)
	check(t, "up to where it is folded", got, e, way, api.OK)
	straight := family(onRow(2), choices(to(0, 3000)))
	straight.Start, straight.Step = pose(0, 0, -1000, 0, -200, 0), 3000
	check(t, "the start is folded", must[bool](t, "Folded")(chain.Folded(straight.Rig.Vehicle, straight.Start)), api.OK, true, api.OK)
	checkHit(t, "it is not folded any more", straight, []int{0}, api.Hit{}, true, api.OK)
}

// P5.5: a piece has at most 200 steps.
func TestManySteps(t *testing.T) {
	f := family(example(), choices(to(2000, 0), to(2001, 0), to(far, 0)), choices(to(4000, 0), to(0, 0)))
	f.Step = 10
	for _, x := range []struct {
		what    string
		choices []int
		want    api.Hit
		poses   int
	}{
		{"as many as there may be", []int{0}, api.Hit{}, 201},
		{"again as many", []int{0, 0}, api.Hit{}, 401},
		{"one too many", []int{1}, stuck(200, 1), 201},
		{"one too many, and no more is driven", []int{1, 0}, stuck(200, 1), 201},
		{"far too many", []int{2, 1}, stuck(200, 2), 201},
	} {
		checkHit(t, x.what, f, x.choices, x.want, x.want.Choices == nil, api.OK)
		way, e := sweep.Drive(f, x.choices)
		if len(way) != x.poses || e != api.OK {
			t.Errorf("%s: %d poses, %d", x.what, len(way), e)
		}
	}
	f.Obstacles = []api.Obstacle{obstacle(0, 9, pt(1991, 0))}
	checkHit(t, "a hit in the last step", f, []int{1}, met(199, 0, 0, 1), false, api.OK)
	f.Obstacles[0].Hull[0].X = 2001
	checkHit(t, "a hit behind it", f, []int{1}, stuck(200, 1), false, api.OK)
	f.Obstacles[0].Hull[0].X = 1000
	checkHit(t, "a hit ahead of it", f, []int{2}, met(99, 0, 0, 2), false, api.OK)
}

// P5.5
func TestBeginningsByChance(t *testing.T) {
	r := chance(4)
	seen := map[string]int{}
	for range 6000 {
		f := anyFamily(t, r)
		checkErr(t, "CheckFamily by chance", sweep.CheckFamily(f), api.OK)
		all := guidesOf(f)
		g := some(r, all...)
		g = g[:1+r.IntN(len(g))]
		want := drivenOf(t, f, g)
		way, e := sweep.Drive(f, g)
		check(t, "Drive by chance", way, e, want.way, api.OK)
		checkHit(t, "Try by chance", f, g, want.hit, !want.isBlocked, api.OK)
		switch {
		case !want.isBlocked:
			seen["passable"]++
		case want.hit.Section == -1:
			seen["stuck"]++
		default:
			seen["met"]++
		}
		if want.isBlocked && len(want.hit.Choices) > 1 {
			seen["later"]++
		}
		if f.Rows[0][g[0]].Back && len(way) > 1 {
			seen["back"]++
		}
	}
	for _, what := range []string{"passable", "stuck", "met", "later", "back"} {
		if seen[what] < 300 {
			t.Errorf("the guides are too much alike: %v", seen)
		}
	}
}
