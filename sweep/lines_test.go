package sweep_test

import (
	"math"
	"slices"
	"testing"

	"gooseneck/api"
	"gooseneck/chain"
	"gooseneck/sweep"
)

// P5.4
func TestLines(t *testing.T) {
	two := append(wall(0, 950), obstacle(901, 950, pt(2000, 800)))
	for _, x := range []struct {
		what   string
		r      api.Rig
		l      []api.Obstacle
		way    []api.Pose
		margin int64
		n      int
		e      api.Errno
	}{
		{"the example", example(), wall(0, 100), forward(1, 0, 1000), 199, 1, api.OK},
		{"the example, but for 1", example(), wall(0, 100), forward(1, 0, 1000), 200, 0, api.ErrBlock},
		{"one pose", example(), wall(0, 100), forward(1, 0), 199, 1, api.OK},
		{"three steps", example(), wall(0, 100), forward(1, 0, 1000, 2000, 3000), 199, 3, api.OK},
		{"what is level with nothing has no line", onRow(2), two, forward(2, 5000, 6000, 7000), 0, 2 * (2 + 2), api.OK},
		{"no obstacles", example(), nil, forward(1, 0), size, 0, api.OK},
		{"nothing is level", example(), wall(1001, 1002), forward(1, 0), size, 0, api.OK},
		{"without a margin", example(), []api.Obstacle{obstacle(0, 0, pt(-500, 501))}, forward(1, 0), 0, 1, api.OK},
		{"a touch without a margin", example(), []api.Obstacle{obstacle(0, 0, pt(-500, 500))}, forward(1, 0), 0, 0, api.ErrBlock},
		{"a hit in the last step", example(), two, forward(1, -9000, -8000, 0), 300, 0, api.ErrBlock},
	} {
		lines, e := sweep.Lines(x.r, x.l, x.way, x.margin)
		if len(lines) != x.n || e != x.e {
			t.Errorf("%s: %v, %d, want %d lines, %d", x.what, lines, e, x.n, x.e)
		}
		if e != api.OK {
			continue
		}
		checkErr(t, x.what+": CheckLines", sweep.CheckLines(x.r, x.l, x.way, x.margin, lines), api.OK)
		if !areLinesOf(t, x.r, x.l, x.way, x.margin, lines) {
			t.Errorf("%s: %v is no proof", x.what, lines)
		}
		checkErr(t, x.what+": a line too many", sweep.CheckLines(x.r, x.l, x.way, x.margin, append(lines, api.Line{})), api.ErrEqual)
		if x.n > 0 {
			checkErr(t, x.what+": a line too few", sweep.CheckLines(x.r, x.l, x.way, x.margin, lines[1:]), api.ErrEqual)
			checkErr(t, x.what+": the last line wrong", sweep.CheckLines(x.r, x.l, x.way, x.margin, append(slices.Clone(lines[1:]), api.Line{})), api.ErrSum)
			checkErr(t, x.what+": the first line wrong", sweep.CheckLines(x.r, x.l, x.way, x.margin, slices.Concat([]api.Line{{}}, lines[1:])), api.ErrSum)
		}
	}
}

// P5.4: the lines are in the order of the steps, then of the sections, then of the obstacles.
func TestOrderOfLines(t *testing.T) {
	r := rig(row(1), section(0, 0, 9, pt(0, 0)), section(0, 0, 9, pt(0, 10)))
	l := []api.Obstacle{obstacle(0, 0, pt(0, 100)), obstacle(0, 0, pt(0, 1000))}
	way := forward(1, 0, 1000, 2000)
	below := func(y int64) api.Line { return api.Line{Y: 1, K: y} }
	good := []api.Line{below(50), below(500), below(50), below(500), below(50), below(500), below(50), below(500)}
	checkErr(t, "all", sweep.CheckLines(r, l, way, 40, good), api.OK)
	for i := range good {
		bad := slices.Clone(good)
		bad[i] = below([]int64{100, 1000}[i%2])
		checkErr(t, "a line that the obstacle touches", sweep.CheckLines(r, l, way, 40, bad), api.ErrSum)
		bad[i] = below([]int64{39, 39, 49, 49}[i%4])
		checkErr(t, "a line that the section is beyond", sweep.CheckLines(r, l, way, 40, bad), api.ErrSum)
		bad[i] = below([]int64{40, 40, 50, 50}[i%4])
		checkErr(t, "a line that the section touches", sweep.CheckLines(r, l, way, 40, bad), api.OK)
		bad[i] = below([]int64{99, 999}[i%2])
		checkErr(t, "a line just ahead of the obstacle", sweep.CheckLines(r, l, way, 40, bad), api.OK)
	}
}

// P5.4: lines have the limits of layer 1, and a line beyond them is not right.
func TestLimitsOfLines(t *testing.T) {
	r := rig(row(1), section(0, 0, 9, pt(0, 0)))
	way := []api.Pose{start()} // the section is at (-1000, 0)
	behind := []api.Obstacle{obstacle(0, 0, pt(0, 100))}
	for _, x := range []struct {
		what   string
		margin int64
		line   api.Line
		want   api.Errno
	}{
		{"X at the limit", 0, api.Line{X: 1 << 26, K: -1000 << 26}, api.OK},
		{"X beyond", 0, api.Line{X: 1<<26 + 1, K: -500 << 26}, api.ErrSum},
		{"Y at the limit", 99, api.Line{Y: 1 << 26, K: 99 << 26}, api.OK},
		{"Y at the limit, a margin beyond", 100, api.Line{Y: 1 << 26, K: 99 << 26}, api.ErrSum},
		{"Y beyond", 0, api.Line{Y: 1<<26 + 1, K: 50 << 26}, api.ErrSum},
		{"both aslant", 0, api.Line{X: 1, Y: 1, K: -1000}, api.OK},
		{"both aslant, with a margin", 549, api.Line{X: 1, Y: 1, K: 98}, api.OK},
		{"both aslant, with a greater margin", 550, api.Line{X: 1, Y: 1, K: 99}, api.ErrSum},
		{"aslant the other way", 449, api.Line{X: 1, Y: -1, K: -102}, api.OK},
		{"aslant the other way, with a greater margin", 450, api.Line{X: 1, Y: -1, K: -101}, api.ErrSum},
		{"nothing", 0, api.Line{}, api.ErrSum},
		{"nothing at all parts a direction of 0", 0, api.Line{K: -1}, api.ErrSum},
		{"K beyond", 0, api.Line{Y: 1, K: 1<<52 + 1}, api.ErrSum},
		{"K far below", size, api.Line{X: 1 << 26, Y: 1 << 26, K: -1 << 52}, api.ErrSum},
		{"K as far below as there is", size, api.Line{X: 1, K: math.MinInt64}, api.ErrSum},
		{"K as far beyond as there is", size, api.Line{X: 1, K: math.MaxInt64}, api.ErrSum},
		{"X as far below as there is", size, api.Line{X: math.MinInt64}, api.ErrSum},
		{"Y as far beyond as there is", size, api.Line{Y: math.MaxInt64}, api.ErrSum},
	} {
		lines := []api.Line{x.line}
		checkErr(t, x.what, sweep.CheckLines(r, behind, way, x.margin, lines), x.want)
		if areLinesOf(t, r, behind, way, x.margin, lines) != (x.want == api.OK) {
			t.Errorf("%s: the oracle says otherwise", x.what)
		}
	}
}

// P5.4: what is grown may reach out of the place, on all sides.
func TestLinesAtTheEndOfThePlace(t *testing.T) {
	r := rig(row(1), section(0, 0, 9, pt(0, 0)))
	// From one corner of the place to the opposite one, with an obstacle in one of the others, or next to the way.
	across := []api.Pose{pose(0, 0, -far, -far), pose(0, 0, far, far)}
	for _, x := range []struct {
		way    []api.Pose
		at     api.Point
		margin int64
		e      api.Errno
	}{
		{across, pt(far, -far), size, api.OK},
		{across, pt(-far, far), size, api.OK},
		{across, pt(far, far-1), 0, api.OK},
		{across, pt(far, far-1), 1, api.ErrBlock},
		{across, pt(far, far-199), 99, api.OK},
		{across, pt(far, far-199), 100, api.ErrBlock},
		{across, pt(199-far, -far), 99, api.OK},
		{across, pt(199-far, -far), 100, api.ErrBlock},
		{across[:1], pt(-far, size+1-far), size, api.OK},
		{across[:1], pt(-far, size-far), size, api.ErrBlock},
		{across[1:], pt(far-size-1, far), size, api.OK},
		{across[1:], pt(far-size, far), size, api.ErrBlock},
	} {
		l := []api.Obstacle{obstacle(0, 9, x.at)}
		lines, e := sweep.Lines(r, l, x.way, x.margin)
		checkErr(t, "Lines at "+shown(x.at), e, x.e)
		if e == api.OK {
			checkErr(t, "CheckLines at "+shown(x.at), sweep.CheckLines(r, l, x.way, x.margin, lines), api.OK)
		}
	}
}

// P5.4: degenerate hulls on one line, one behind the other.
func TestLinesOfWhatHasNoWidth(t *testing.T) {
	r := rig(row(1), section(0, 0, 9, pts(-500, 0, 500, 0)...))
	aslant := pose(600, 800, 0, 0) // from (-300, -400) to (300, 400)
	for _, at := range [][]api.Point{pts(303, 404), pts(-303, -404), pts(303, 404, 306, 408), pts(-306, -408, -303, -404), pts(304, 400), pts(0, 1)} {
		l := []api.Obstacle{obstacle(0, 9, at...)}
		lines, e := sweep.Lines(r, l, []api.Pose{aslant}, 0)
		checkErr(t, "Lines at "+shown(at), e, api.OK)
		checkErr(t, "CheckLines at "+shown(at), sweep.CheckLines(r, l, []api.Pose{aslant}, 0, lines), api.OK)
	}
}

// P5.4, P5.9: there is a right proof just if nothing meets; and a proof that is changed is right just if all its lines are.
func TestLinesByChance(t *testing.T) {
	r := chance(3)
	seen := map[string]int{}
	for round := range 3000 {
		most := []int64{100, 1000, 20000, size / 2}[round%4]
		g := anyRig(t, r, 3, most)
		way := anyWay(t, r, g.Vehicle, 3, some(r, pt(0, 0), pt(0, 0), pt(far-2*most, 0)), most)
		l := anyObstacles(r, 3, way, 4*most)
		margin := some(r, 0, from(r, 0, most/2))
		lines, e := sweep.Lines(g, l, way, margin)
		if want := errorOf(g, way...); want != api.OK {
			check(t, "Lines by chance", lines, e, nil, want)
			checkErr(t, "CheckLines by chance", sweep.CheckLines(g, l, way, margin, lines), want)
			continue
		}
		if _, blocked := firstOf(t, g, l, way, margin); blocked == api.OK {
			check(t, "Lines by chance", lines, e, nil, api.ErrBlock)
			seen["blocked"]++
			hits, _ := gapsOf(t, g, l, way)
			checkErr(t, "CheckLines with any lines", sweep.CheckLines(g, l, way, margin, make([]api.Line, len(hits))), api.ErrSum)
			continue
		}
		if e != api.OK || !areLinesOf(t, g, l, way, margin, lines) {
			t.Fatalf("Lines by chance: %v, %d", lines, e)
		}
		checkErr(t, "CheckLines by chance", sweep.CheckLines(g, l, way, margin, lines), api.OK)
		if len(lines) == 0 {
			continue
		}
		i := r.IntN(len(lines))
		part := some(r, &lines[i].X, &lines[i].Y, &lines[i].K)
		*part += some(r, -1, 1, from(r, -most, most), some(r, extremes...))
		want := api.ErrSum
		if areLinesOf(t, g, l, way, margin, lines) {
			want = api.OK
		}
		checkErr(t, "CheckLines with another line", sweep.CheckLines(g, l, way, margin, lines), want)
		seen[map[api.Errno]string{api.OK: "right", api.ErrSum: "wrong"}[want]]++
	}
	for _, what := range []string{"blocked", "right", "wrong"} {
		if seen[what] < 100 {
			t.Errorf("the proofs are too much alike: %v", seen)
		}
	}
}

// P5.4: the number of lines, and whether they are right, is looked at behind the errors of corners.
func TestLinesBehindErrorsOfCorners(t *testing.T) {
	r := rig(meeting(), section(-1, 0, 9, pt(0, 0)))
	way := []api.Pose{pose(0, 0, -1000, 0, -1000, 0)}
	checkErr(t, "the pose", chain.CheckPose(r.Vehicle, way[0]), api.OK)
	for _, lines := range [][]api.Line{nil, {{}}, {{}, {}}} {
		checkErr(t, "CheckLines", sweep.CheckLines(r, wall(0, 9), way, 0, lines), api.ErrZero)
	}
}
