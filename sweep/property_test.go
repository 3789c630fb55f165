package sweep_test

import (
	"math"
	"math/rand/v2"
	"slices"
	"testing"

	"gooseneck/api"
	"gooseneck/plane"
	"gooseneck/sweep"
)

// anyPassage returns a rig on a way, among obstacles, without errors of corners.
func anyPassage(t *testing.T, r *rand.Rand, most int64) (api.Rig, []api.Obstacle, []api.Pose) {
	t.Helper()
	for {
		g := anyRig(t, r, 3, most)
		way := anyWay(t, r, g.Vehicle, 5, pt(0, 0), 2*most)
		if errorOf(g, way...) == api.OK {
			return g, anyObstacles(r, 4, way, 4*most), way
		}
	}
}

func clearance(t *testing.T, g api.Rig, l []api.Obstacle, way []api.Pose) int64 {
	t.Helper()
	return must[int64](t, "Clearance")(sweep.Clearance(g, l, way))
}

// times8 returns 8 times a point, so that an eighth of a step is whole.
func times8(l []api.Point) []api.Point {
	var all []api.Point
	for _, p := range l {
		all = append(all, pt(8*p.X, 8*p.Y))
	}
	return all
}

// between returns the corners of a section k eighths of a step behind its beginning, each moved by at most the margin.
func between(t *testing.T, r *rand.Rand, g api.Rig, a, b api.Pose, i int, k, margin int64) []api.Point {
	t.Helper()
	before := must[[]api.Point](t, "Corners")(sweep.Corners(g, a, i))
	behind := must[[]api.Point](t, "Corners")(sweep.Corners(g, b, i))
	var l []api.Point
	for c, p := range before {
		q := behind[c]
		x, y := some(r, -8*margin, 8*margin, from(r, -8*margin, 8*margin)), some(r, -8*margin, 8*margin, from(r, -8*margin, 8*margin))
		l = append(l, pt((8-k)*p.X+k*q.X+x, (8-k)*p.Y+k*q.Y+y))
	}
	return must[[]api.Point](t, "Hull")(plane.Hull(l))
}

// P5.8
func TestAllPositions(t *testing.T) {
	r := chance(6)
	looked := 0
	for round := range 1500 {
		most := []int64{100, 1000, 10000}[round%3]
		g, l, way := anyPassage(t, r, most)
		margin := min(clearance(t, g, l, way)-1, size)
		if margin < 0 || len(l) == 0 {
			continue
		}
		hit, e := sweep.First(g, l, way, margin)
		check(t, "First with less than the clearance", hit, e, api.Hit{}, api.ErrBlock)
		for _, s := range stepsOf(way) {
			for i := range g.Sections {
				hull := between(t, r, g, s[0], s[1], i, from(r, 0, 8), margin)
				for _, o := range l {
					if !areLevel(g, i, o) {
						continue
					}
					looked++
					if meets, e := plane.Meet(hull, times8(o.Hull)); meets || e != api.OK {
						t.Fatalf("%v on %v meets %v with the margin %d: %d", g, s, o, margin, e)
					}
				}
			}
		}
	}
	if looked < 1000 {
		t.Errorf("only %d positions were looked at", looked)
	}
}

// P5.9: whatever lines are accepted, the clearance is greater than the margin.
func TestAcceptedProofs(t *testing.T) {
	r := chance(7)
	seen := map[bool]int{}
	for range 4000 {
		g, l, way := anyPassage(t, r, 1000)
		if len(l) == 0 {
			continue
		}
		g.Sections, l, way = g.Sections[:1], l[:1], way[:1]
		n := clearance(t, g, l, way)
		margin := some(r, 0, max(0, min(n-1, size)), min(n, size))
		swept := sweptOf(t, g, way[0], way[0], 0)
		aslant := plus(l[0].Hull[0], swept[0], -1)
		across := some(r, aslant, pt(aslant.X, 0), pt(0, aslant.Y), pt(from(r, -3, 3), from(r, -3, 3)))
		line := api.Line{X: across.X, Y: across.Y, K: touched(swept, across, margin)}
		isRight := sweep.CheckLines(g, l, way, margin, []api.Line{line}) == api.OK
		seen[isRight]++
		if isRight && n <= margin {
			t.Errorf("%v is a proof with the margin %d, and the clearance is %d", line, margin, n)
		}
		_, e := sweep.Lines(g, l, way, margin)
		if (e == api.OK) != (n > margin) {
			t.Errorf("Lines with the margin %d, and the clearance %d: %d", margin, n, e)
		}
	}
	if seen[true] < 200 || seen[false] < 200 {
		t.Errorf("the lines are too much alike: %v", seen)
	}
}

// touched returns the K of the line across a direction that a hull touches when it is grown.
func touched(h []api.Point, n api.Point, margin int64) int64 {
	most := int64(math.MinInt64)
	for _, p := range h {
		for _, d := range box(-margin, -margin, margin, margin) {
			most = max(most, n.X*(p.X+d.X)+n.Y*(p.Y+d.Y))
		}
	}
	return most
}

// P5.10
func TestClearanceOfMore(t *testing.T) {
	r := chance(8)
	for round := range 2000 {
		g, l, way := anyPassage(t, r, []int64{100, 1000, 10000}[round%3])
		n := clearance(t, g, l, way)
		for _, margin := range []int64{0, n - 1, n, n + 1, from(r, 0, 20000)} {
			if margin < 0 || margin > size {
				continue
			}
			_, e := sweep.First(g, l, way, margin)
			if (e == api.OK) != (n <= margin) || e != api.OK && e != api.ErrBlock {
				t.Errorf("First with the margin %d, and the clearance %d: %d", margin, n, e)
			}
		}
		k := r.IntN(len(way))
		if parts := min(clearance(t, g, l, way[:k+1]), clearance(t, g, l, way[k:])); parts != n {
			t.Errorf("the clearance is %d, and that of the parts is %d", n, parts)
		}
		if len(l) > 0 && clearance(t, g, l[1:], way) < n {
			t.Errorf("the clearance is %d, and less with an obstacle less", n)
		}
		if len(g.Sections) > 1 {
			less := g
			less.Sections = g.Sections[:len(g.Sections)-1]
			if clearance(t, less, l, way) < n {
				t.Errorf("the clearance is %d, and less with a section less", n)
			}
		}
		if clearance(t, g, l, way[:max(1, k)]) < n {
			t.Errorf("the clearance is %d, and less with less poses", n)
		}
	}
}

// P5.11, P5.12
func TestBestIsBest(t *testing.T) {
	r := chance(9)
	seen := map[api.Errno]int{}
	for range 1000 {
		f := anyFamily(t, r)
		best, n, e := sweep.Best(f)
		hits, proofErr := sweep.Prove(f)
		passable := must[[][]int](t, "Passable")(sweep.Passable(f))
		seen[e]++
		if e == api.ErrPlan {
			checkErr(t, "Prove", proofErr, api.OK)
			checkErr(t, "CheckProof", sweep.CheckProof(f, hits), api.OK)
			check(t, "Passable", passable, e, nil, api.ErrPlan)
			continue
		}
		checkErr(t, "Best", e, api.OK)
		checkErr(t, "Prove", proofErr, api.ErrPlan)
		if n <= f.Margin || !slices.ContainsFunc(passable, func(g []int) bool { return slices.Equal(g, best) }) {
			t.Errorf("the best one is %v, with %d", best, n)
		}
		isFirst := true
		for _, g := range passable {
			checkHit(t, "Try of a passable guide", f, g, api.Hit{}, true, api.OK)
			k := clearance(t, f.Rig, f.Obstacles, must[[]api.Pose](t, "Drive")(sweep.Drive(f, g)))
			isFirst = isFirst && !slices.Equal(g, best)
			if k > n || isFirst && k == n {
				t.Errorf("the best one is %v with %d, but %v has %d", best, n, g, k)
			}
		}
	}
	if seen[api.OK] < 200 || seen[api.ErrPlan] < 100 {
		t.Errorf("the families are too much alike: %v", seen)
	}
}

// P5.13
func TestLift(t *testing.T) {
	r := chance(10)
	more := 0
	for round := range 1500 {
		g, l, way := anyPassage(t, r, []int64{100, 1000, 10000}[round%3])
		for i := range l {
			if r.IntN(3) == 0 {
				l[i].Low, l[i].High = 10000, 11000 // they are above the load all the time
			}
		}
		g.Lift = from(r, 0, 900)
		n := clearance(t, g, l, way)
		g.Lift = from(r, 1300, 9000) // no section begins lower than -100, and no other obstacle ends higher than 1,100
		lifted := clearance(t, g, l, way)
		if lifted < n {
			t.Errorf("the clearance is %d, and %d when the load is lifted", n, lifted)
		}
		if lifted > n {
			more++
		}
	}
	if more < 200 {
		t.Errorf("lifting has changed only %d clearances", more)
	}
}
