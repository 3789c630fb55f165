package sweep_test

import (
	"math"
	"slices"
	"testing"

	"gooseneck/api"
	"gooseneck/chain"
	"gooseneck/sweep"
)

// forward returns the poses of a row of n units on the X axis, one for each lead.
func forward(n int, leads ...int64) []api.Pose {
	var way []api.Pose
	for _, x := range leads {
		way = append(way, onAxis(n, x))
	}
	return way
}

// P5.3
func TestClearance(t *testing.T) {
	high := onRow(1)
	high.Lift = 5000
	for _, x := range []struct {
		what string
		r    api.Rig
		l    []api.Obstacle
		way  []api.Pose
		want int64
	}{
		{"the example", example(), wall(0, 100), forward(1, 0, 1000), 200},
		{"one pose", example(), wall(0, 100), forward(1, 0), 200},
		{"one pose that is not there yet", example(), wall(0, 100), forward(1, -1000), 1000},
		{"between the poses only", example(), wall(0, 100), forward(1, -1000, 3000), 200},
		{"in the last step", example(), wall(0, 100), forward(1, -5000, -4000, -3000, -500), 500},
		{"in the first step", example(), wall(0, 100), forward(1, -500, -3000, -4000), 500},
		{"no obstacles", example(), nil, forward(1, 0), 1 << 26},
		{"an obstacle that is above", example(), wall(1001, 2000), forward(1, 0), 1 << 26},
		{"an obstacle as high as the section", example(), wall(1000, 2000), forward(1, 0), 200},
		{"an obstacle that is below", example(), wall(-9, -1), forward(1, 0), 1 << 26},
		{"an obstacle up to the section", example(), wall(-9, 0), forward(1, 0), 200},
		{"an obstacle higher than the section", example(), wall(-9, 5000), forward(1, 0), 200},
		{"into it", example(), wall(0, 100), []api.Pose{start(), pose(0, 1000, 0, 0)}, 0},
		{"upon it", example(), []api.Obstacle{obstacle(0, 0, pt(-500, 0))}, forward(1, 0), 0},
		{"a touch", example(), []api.Obstacle{obstacle(0, 0, pt(-500, 500))}, forward(1, 0), 0},
		{"the nearest of two", example(), append(wall(0, 100), obstacle(0, 0, pt(-500, 600))), forward(1, 0), 100},
		{"the nearest of two, exchanged", example(), append([]api.Obstacle{obstacle(0, 0, pt(-500, 600))}, wall(0, 100)...), forward(1, 0), 100},
		{"the nearest of two is not level", example(), append(wall(0, 100), obstacle(5000, 5000, pt(-500, 600))), forward(1, 0), 200},
		{"the load is nearer", onRow(1), wall(0, 5000), forward(1, 0), 0},
		{"the load is above", high, wall(0, 5000), forward(1, 0), 200},
		{"the load is lifted into it", high, wall(5901, 5901), forward(1, 0), 0},
		{"the load is lifted up to it", high, wall(6001, 7000), forward(1, 0), 1 << 26},
		{"the last unit", onRow(2), []api.Obstacle{obstacle(0, 0, pt(-9000, 0))}, forward(2, 0), 6800},
		{"at the other end of the place", example(), []api.Obstacle{obstacle(0, 0, pt(far, far))}, forward(1, -far+1000), 2*far - 1000},
	} {
		got, e := sweep.Clearance(x.r, x.l, x.way)
		check(t, x.what, got, e, x.want, api.OK)
		check(t, x.what+": the oracle", clearanceOf(t, x.r, x.l, x.way), api.OK, x.want, api.OK)
	}
}

// P5.3: the gap of what is swept aslant is less than that of its box.
func TestClearanceAslant(t *testing.T) {
	r := rig(row(1), section(0, 0, 0, pt(0, 0)))
	way := []api.Pose{pose(0, 1000, 0, 0), pose(600, 1400, 600, 400)} // a line from (0, 0) to (600, 400)
	for _, x := range []struct {
		at   api.Point
		want int64
	}{{pt(300, 200), 0}, {pt(300, 201), 1}, {pt(0, 400), 240}, {pt(600, 0), 240}, {pt(1, 400), 240}, {pt(3, 400), 239}, {pt(900, 0), 360}, {pt(1100, 0), 500}} {
		got, e := sweep.Clearance(r, []api.Obstacle{obstacle(0, 0, x.at)}, way)
		check(t, "aslant: "+shown(x.at), got, e, x.want, api.OK)
	}
}

// P5.3
func TestFirst(t *testing.T) {
	two := append(wall(0, 100), obstacle(0, 100, pt(2000, 600)))
	swapped := []api.Obstacle{two[1], two[0]}
	for _, x := range []struct {
		what   string
		r      api.Rig
		l      []api.Obstacle
		way    []api.Pose
		margin int64
		want   api.Hit
		e      api.Errno
	}{
		{"the example", example(), wall(0, 100), forward(1, 0, 1000), 200, met(0, 0, 0), api.OK},
		{"the example, but for 1", example(), wall(0, 100), forward(1, 0, 1000), 199, api.Hit{}, api.ErrBlock},
		{"one pose", example(), wall(0, 100), forward(1, 0), 200, met(0, 0, 0), api.OK},
		{"one pose, but for 1", example(), wall(0, 100), forward(1, 0), 199, api.Hit{}, api.ErrBlock},
		{"a touch without a margin", example(), []api.Obstacle{obstacle(0, 0, pt(-500, 500))}, forward(1, 0), 0, met(0, 0, 0), api.OK},
		{"next to it without a margin", example(), []api.Obstacle{obstacle(0, 0, pt(-500, 501))}, forward(1, 0), 0, api.Hit{}, api.ErrBlock},
		{"in the third step", example(), two, forward(1, 0, -2000, 0, 1900, 1950), 100, met(2, 0, 1), api.OK},
		{"the step before the obstacle", example(), swapped, forward(1, 0, 1000, 2000), 200, met(0, 0, 1), api.OK},
		{"of one step, the first obstacle", example(), two, forward(1, 0, 3000), 200, met(0, 0, 0), api.OK},
		{"of one step, the first obstacle that is near enough", example(), two, forward(1, 0, 3000), 199, met(0, 0, 1), api.OK},
		{"the section before the obstacle", onRow(2), []api.Obstacle{obstacle(0, 0, pt(-2000, 600)), obstacle(0, 0, pt(-500, 600))}, forward(2, 0), 100, met(0, 0, 1), api.OK},
		{"the step before the section", onRow(2), []api.Obstacle{obstacle(0, 0, pt(1500, 0)), obstacle(0, 0, pt(-2000, 600))}, forward(2, 0, 1, 2000), 100, met(0, 1, 1), api.OK},
		{"the load", onRow(2), wall(950, 950), forward(2, 0, 2000), 0, met(0, 2, 0), api.OK},
		{"not level", onRow(2), wall(2000, 3000), forward(2, 0, 2000), size, api.Hit{}, api.ErrBlock},
		{"no obstacles", example(), nil, forward(1, 0, 1000), size, api.Hit{}, api.ErrBlock},
		{"the greatest margin", example(), []api.Obstacle{obstacle(0, 0, pt(size, 0))}, forward(1, 0), size, met(0, 0, 0), api.OK},
		{"beyond it", example(), []api.Obstacle{obstacle(0, 0, pt(size+1, 0))}, forward(1, 0), size, api.Hit{}, api.ErrBlock},
		{"at the end of the place", example(), []api.Obstacle{obstacle(0, 0, pt(far, far))}, forward(1, far-200), far, api.Hit{}, api.ErrRange},
		{"grown beyond the place", example(), []api.Obstacle{obstacle(0, 0, pt(far, far))}, []api.Pose{pose(far, far-700, far-1000, far-700)}, 200, met(0, 0, 0), api.OK},
	} {
		got, e := sweep.First(x.r, x.l, x.way, x.margin)
		check(t, x.what, got, e, x.want, x.e)
	}
}

// passing is what a passage is made of.
type passing struct {
	r      api.Rig
	l      []api.Obstacle
	way    []api.Pose
	margin int64
	lines  []api.Line
}

// passages are the functions of passages.
func passages() map[string]func(p passing) api.Errno {
	return map[string]func(p passing) api.Errno{
		"Clearance":  func(p passing) api.Errno { _, e := sweep.Clearance(p.r, p.l, p.way); return e },
		"First":      func(p passing) api.Errno { _, e := sweep.First(p.r, p.l, p.way, p.margin); return e },
		"Lines":      func(p passing) api.Errno { _, e := sweep.Lines(p.r, p.l, p.way, p.margin); return e },
		"CheckLines": func(p passing) api.Errno { return sweep.CheckLines(p.r, p.l, p.way, p.margin, p.lines) },
	}
}

// P5.3, P5.4: the errors in their order, each with all that come behind it.
func TestErrorsOfPassages(t *testing.T) {
	lost := []api.Pose{onAxis(2, 0), pose(far, far, far-1000, far, far-2200, far), {}}
	for _, x := range []struct {
		what string
		p    passing
		want api.Errno
		but  string
	}{
		{"too many units", passing{onRow(13), make([]api.Obstacle, 65), nil, -1, nil}, api.ErrMany, ""},
		{"too many sections", passing{rig(api.Vehicle{}, make([]api.Section, 25)...), make([]api.Obstacle, 65), nil, -1, nil}, api.ErrMany, ""},
		{"a rig that is not valid", passing{rig(row(1)), make([]api.Obstacle, 65), nil, -1, nil}, api.ErrArg, ""},
		{"too many obstacles", passing{onRow(2), make([]api.Obstacle, 65), nil, -1, nil}, api.ErrMany, ""},
		{"an obstacle that is not valid", passing{onRow(2), make([]api.Obstacle, 64), nil, -1, nil}, api.ErrArg, ""},
		{"no poses", passing{onRow(2), nil, nil, -1, nil}, api.ErrRange, ""},
		{"too many poses, not valid", passing{onRow(2), nil, make([]api.Pose, 2001), -1, nil}, api.ErrMany, ""},
		{"the last pose not valid", passing{onRow(2), nil, lost, -1, nil}, api.ErrRange, ""},
		{"a pose of another vehicle", passing{onRow(2), nil, forward(1, 0), -1, nil}, api.ErrRange, ""},
		{"a margin below 0, and corners beyond the place", passing{onRow(2), nil, lost[:2], -1, nil}, api.ErrRange, "Clearance"},
		{"too great a margin", passing{onRow(2), nil, lost[:2], size + 1, nil}, api.ErrRange, "Clearance"},
		{"far too great a margin", passing{onRow(2), nil, forward(2, 0), math.MaxInt64, nil}, api.ErrRange, "Clearance"},
		{"far too little a margin", passing{onRow(2), nil, forward(2, 0), math.MinInt64, nil}, api.ErrRange, "Clearance"},
		{"corners beyond the place, without obstacles", passing{onRow(2), nil, lost[:2], 0, make([]api.Line, 9)}, api.ErrOver, ""},
		{"corners beyond the place, behind a hit", passing{onRow(2), wall(0, 9), lost[:2], size, nil}, api.ErrOver, ""},
	} {
		for what, call := range passages() {
			if what == x.but {
				continue
			}
			checkErr(t, what+" with "+x.what, call(x.p), x.want)
		}
	}
}

// P5.3, P5.4: of all errors of corners, that of the first pose is returned, then that of the first section.
func TestErrorsOfCorners(t *testing.T) {
	// The second unit is just behind the first one, so that the load line has no length, or it is turned by it.
	over, zero := section(0, 0, 0, pt(0, size)), section(-1, 0, 0, pt(0, 0))
	high := func(y int64) int64 { return far - size + y }
	fine := pose(0, 0, -1000, 0, -1000, 9)
	isOver := pose(0, high(1), -1000, high(1), -1000, high(9))
	isZero := pose(0, 0, -1000, 0, -1000, 0)
	isBoth := pose(0, high(1), -1000, high(1), -1000, high(1))
	for _, x := range []struct {
		what  string
		first api.Section
		then  api.Section
		way   []api.Pose
		want  api.Errno
	}{
		{"none", over, zero, []api.Pose{fine}, api.OK},
		{"a corner beyond", over, zero, []api.Pose{isOver}, api.ErrOver},
		{"no load line", over, zero, []api.Pose{isZero}, api.ErrZero},
		{"both, the corner first", over, zero, []api.Pose{isBoth}, api.ErrOver},
		{"both, the line first", zero, over, []api.Pose{isBoth}, api.ErrZero},
		{"one behind the other, the corner first", zero, over, []api.Pose{fine, isOver, isZero}, api.ErrOver},
		{"one behind the other, the line first", over, zero, []api.Pose{fine, isZero, isOver}, api.ErrZero},
	} {
		p := passing{rig(meeting(), x.first, x.then), nil, x.way, 0, nil}
		for what, call := range passages() {
			want := x.want
			if what == "First" && want == api.OK {
				want = api.ErrBlock
			}
			checkErr(t, what+": "+x.what, call(p), want)
		}
	}
}

// P5.3: 2,000 poses, 24 sections of 16 corners and 64 obstacles.
func TestAsMuchAsThereMayBe(t *testing.T) {
	r := rig(row(12))
	for i := range 24 {
		r.Sections = append(r.Sections, section(i%13-1, 0, 9, round(0, 0, 60)...))
	}
	var l []api.Obstacle
	for i := range int64(64) {
		l = append(l, obstacle(0, 9, round(2000*i, 1980+i%5, 60)...))
	}
	var way []api.Pose
	for k := range int64(2000) {
		way = append(way, onAxis(12, 50*k))
	}
	got, e := sweep.Clearance(r, l, way)
	check(t, "Clearance", got, e, 1020, api.OK)
	hit, e := sweep.First(r, l, way, 1020)
	check(t, "First", hit, e, met(0, 1, 0), api.OK)
	// Sides across Y are 240 long: that of the axle at 8,750 reaches to 9,890 when it is grown, and the other one begins at 9,880.
	hit, e = sweep.First(r, l[1:], way, 1020)
	check(t, "First, without the first obstacle", hit, e, met(194, 1, 4), api.OK)
	hit, e = sweep.First(r, l, way, 1019)
	check(t, "First, but for 1", hit, e, api.Hit{}, api.ErrBlock)
}

// P5.3
func TestPassagesByChance(t *testing.T) {
	r := chance(2)
	seen := map[string]int{}
	for round := range 4000 {
		most := []int64{100, 1000, 20000, size / 2}[round%4]
		g := anyRig(t, r, 3, most)
		way := anyWay(t, r, g.Vehicle, 4, some(r, pt(0, 0), pt(far-most, 0)), most)
		l := anyObstacles(r, 4, way, 4*most)
		margin := some(r, 0, from(r, 0, most/2), from(r, 0, size))
		wantErr := errorOf(g, way...)
		clearance, e := sweep.Clearance(g, l, way)
		first, firstErr := sweep.First(g, l, way, margin)
		if wantErr != api.OK {
			check(t, "Clearance by chance", clearance, e, 0, wantErr)
			check(t, "First by chance", first, firstErr, api.Hit{}, wantErr)
			seen["error"]++
			continue
		}
		want := clearanceOf(t, g, l, way)
		check(t, "Clearance by chance", clearance, e, want, api.OK)
		hit, wantErr := firstOf(t, g, l, way, margin)
		check(t, "First by chance", first, firstErr, hit, wantErr)
		seen[map[bool]string{true: "hit", false: "none"}[firstErr == api.OK]]++
		if want > 0 && want < 1<<26 {
			seen["clearance"]++
		}
	}
	for _, what := range []string{"error", "hit", "none", "clearance"} {
		if seen[what] < 300 {
			t.Errorf("the passages are too much alike: %v", seen)
		}
	}
}

// P5.3: a passage whose poses are those of a step has the clearance of what is swept.
func TestPassageOfSteps(t *testing.T) {
	r := onRow(2)
	p := onAxis(2, 0)
	q := must[api.Pose](t, "Step")(chain.Step(r.Vehicle, p, pt(300, 400), []int{0, 3}))
	l := []api.Obstacle{obstacle(950, 950, pts(-900, 1000, 500, 1500)...)}
	got, e := sweep.Clearance(r, l, []api.Pose{p, q})
	gaps := must[[]api.Point](t, "Swept")(sweep.Swept(r, p, q, 2))
	check(t, "of a step", got, e, gapOf(t, gaps, l[0].Hull), api.OK)
	all, e := sweep.Clearance(r, l, slices.Repeat([]api.Pose{p, q}, 50))
	check(t, "again and again", all, e, got, api.OK)
}
