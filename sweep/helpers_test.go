package sweep_test

import (
	"fmt"
	"math"
	"math/rand/v2"
	"slices"
	"testing"

	"gooseneck/api"
	"gooseneck/chain"
	"gooseneck/plane"
	"gooseneck/sweep"
)

const (
	far  = api.MaxPlace
	size = api.MaxSize
	top  = api.MaxHeight
)

// extremes are numbers at the limits of the chapter, one beyond them, and at the ends of the type.
var extremes = []int64{
	math.MinInt64, math.MinInt64 + 1, -1 << 52, -far - 1, -far, -top - 1, -top, -size - 1, -size, -2, -1,
	0, 1, 2, 6, 9, 10, 16, 24, 64, 199, 200, 201, size, size + 1, top, top + 1, far, far + 1, 1 << 26, 1<<26 + 1,
	1 << 52, 1<<52 + 1, math.MaxInt64 - 1, math.MaxInt64,
}

// chance returns numbers that look like chance, and are the same in each run.
func chance(seed uint64) *rand.Rand { return rand.New(rand.NewPCG(seed, 5)) }

// from returns a number from low to high.
func from(r *rand.Rand, low, high int64) int64 { return low + r.Int64N(high-low+1) }

// some returns one of several.
func some[T any](r *rand.Rand, l ...T) T { return l[r.IntN(len(l))] }

func pt(x, y int64) api.Point { return api.Point{X: x, Y: y} }

// pts returns the points with these coordinates, X and Y in turn.
func pts(c ...int64) []api.Point {
	var l []api.Point
	for i := 0; i < len(c); i += 2 {
		l = append(l, pt(c[i], c[i+1]))
	}
	return l
}

// pose returns the pose with these coordinates, of the lead and then of the points that are pulled.
func pose(c ...int64) api.Pose { return api.Pose{Lead: pt(c[0], c[1]), Axles: pts(c[2:]...)} }

// box returns a hull from the first X and Y to the second ones.
func box(x, y, x2, y2 int64) []api.Point { return pts(x, y, x2, y, x2, y2, x, y2) }

// round returns a hull of 16 corners about a point.
func round(x, y, n int64) []api.Point {
	return pts(x-8*n, y-2*n, x-7*n, y-5*n, x-5*n, y-7*n, x-2*n, y-8*n, x+2*n, y-8*n, x+5*n, y-7*n, x+7*n, y-5*n, x+8*n, y-2*n,
		x+8*n, y+2*n, x+7*n, y+5*n, x+5*n, y+7*n, x+2*n, y+8*n, x-2*n, y+8*n, x-5*n, y+7*n, x-7*n, y+5*n, x-8*n, y+2*n)
}

func section(on int, low, high int64, hull ...api.Point) api.Section {
	return api.Section{On: on, Hull: hull, Low: low, High: high}
}

func obstacle(low, high int64, hull ...api.Point) api.Obstacle {
	return api.Obstacle{Hull: hull, Low: low, High: high}
}

// unit returns a unit of the length 1,000, which is 1,000 wide and high.
func unit(behind int64) api.Unit {
	return api.Unit{Length: 1000, Behind: behind, Width: 500, Height: 1000, Mass: 1, Most: 40, Axles: []api.Axle{{X: 1000, Limit: 1000, Wheels: 2}}}
}

// of returns a vehicle of units, whose load rests on all of them.
func of(units ...api.Unit) api.Vehicle {
	return api.Vehicle{Name: "v", Units: units, To: len(units) - 1}
}

// row returns a vehicle of n units that can be backed, with 200 from each axle to the joint behind it.
func row(n int) api.Vehicle { return of(slices.Repeat([]api.Unit{unit(200)}, n)...) }

// onAxis returns the straight pose of a row of n units on the X axis.
func onAxis(n int, lead int64) api.Pose {
	p := api.Pose{Lead: pt(lead, 0)}
	for i := range int64(n) {
		p.Axles = append(p.Axles, pt(lead-1000-1200*i, 0))
	}
	return p
}

// rig returns a rig whose load is not lifted, turned or shifted.
func rig(v api.Vehicle, sections ...api.Section) api.Rig {
	return api.Rig{Vehicle: v, Sections: sections, Turn: api.Rot{C: 1, N: 1}}
}

// example is the rig of the chapter's examples.
func example() api.Rig { return rig(of(unit(0)), section(0, 0, 1000, box(0, -500, 1000, 500)...)) }

// start is the pose of the examples, and wall their obstacle, between two heights.
func start() api.Pose { return pose(0, 0, -1000, 0) }

func wall(low, high int64) []api.Obstacle {
	return []api.Obstacle{obstacle(low, high, pts(0, 700, 100, 700)...)}
}

// onRow returns the rig of the bodies of a row, and the load that is above them, from 0 to 1,000.
func onRow(n int) api.Rig {
	r := rig(row(n))
	for i := range n {
		r.Sections = append(r.Sections, section(i, 0, 900, box(0, -500, 1000, 500)...))
	}
	r.Sections = append(r.Sections, section(-1, 901, 1000, box(-100, -700, 1300, 700)...))
	return r
}

// to returns a choice that is led forward to a point, and back one that is led back.
func to(x, y int64) api.Choice { return api.Choice{To: pt(x, y)} }

func back(x, y int64) api.Choice { return api.Choice{To: pt(x, y), Back: true} }

// steered returns a choice that is steered by hand.
func steered(c api.Choice, steer ...int) api.Choice {
	c.Steer = steer
	return c
}

// family returns a family with steps of 500 that starts in the pose of a row at the lead (0, 0).
func family(r api.Rig, rows ...[]api.Choice) api.Family {
	return api.Family{Rig: r, Start: onAxis(len(r.Vehicle.Units), 0), Step: 500, Rows: rows}
}

func choices(l ...api.Choice) []api.Choice { return l }

// stuck returns the hit of a guide that cannot be driven on, and met that of one that meets an obstacle.
func stuck(step int, choices ...int) api.Hit {
	return api.Hit{Choices: choices, Step: step, Section: -1, Obstacle: -1}
}

func met(step, section, obstacle int, choices ...int) api.Hit {
	return api.Hit{Choices: choices, Step: step, Section: section, Obstacle: obstacle}
}

// cloneRig returns a rig that shares no memory with another one, and so on.
func cloneRig(r api.Rig) api.Rig {
	r.Vehicle.Units = slices.Clone(r.Vehicle.Units)
	for i := range r.Vehicle.Units {
		r.Vehicle.Units[i].Axles = slices.Clone(r.Vehicle.Units[i].Axles)
	}
	r.Sections = slices.Clone(r.Sections)
	for i := range r.Sections {
		r.Sections[i].Hull = slices.Clone(r.Sections[i].Hull)
	}
	return r
}

func clonePose(p api.Pose) api.Pose { return api.Pose{Lead: p.Lead, Axles: slices.Clone(p.Axles)} }

func cloneObstacles(l []api.Obstacle) []api.Obstacle {
	l = slices.Clone(l)
	for i := range l {
		l[i].Hull = slices.Clone(l[i].Hull)
	}
	return l
}

func cloneFamily(f api.Family) api.Family {
	f.Rig, f.Start, f.Obstacles, f.Rows = cloneRig(f.Rig), clonePose(f.Start), cloneObstacles(f.Obstacles), slices.Clone(f.Rows)
	for i := range f.Rows {
		f.Rows[i] = slices.Clone(f.Rows[i])
		for k := range f.Rows[i] {
			f.Rows[i][k].Steer = slices.Clone(f.Rows[i][k].Steer)
		}
	}
	return f
}

// near returns a valid point whose coordinates differ from those of another one by at most most.
func near(r *rand.Rand, p api.Point, most int64) api.Point {
	x, y := p.X+from(r, -most, most), p.Y+from(r, -most, most)
	return pt(min(far, max(-far, x)), min(far, max(-far, y)))
}

// anyHull returns a hull of up to n corners near a point.
func anyHull(r *rand.Rand, n int, about api.Point, most int64) []api.Point {
	var l []api.Point
	for range 1 + r.IntN(n) {
		l = append(l, near(r, about, most))
	}
	h, _ := plane.Hull(l)
	return h
}

// anyUnit returns a valid unit with lengths of up to most; most of them can be backed.
func anyUnit(r *rand.Rand, most int64) api.Unit {
	u := api.Unit{
		Length: from(r, 100, most), Front: from(r, 0, most), Rear: from(r, 0, most), Width: from(r, 0, most/2),
		Height: from(r, 0, 3000), Mass: 1, Most: r.IntN(41), Axles: []api.Axle{{X: 1, Limit: 1, Wheels: 1}},
	}
	u.Behind = from(r, 100, most)
	if r.IntN(5) == 0 {
		u.Behind, u.Steer = from(r, -u.Length, 0), from(r, 0, 900)
	}
	return u
}

func anyVehicle(r *rand.Rand, n int, most int64) api.Vehicle {
	v := api.Vehicle{Name: "any"}
	for range 1 + r.IntN(n) {
		v.Units = append(v.Units, anyUnit(r, most))
	}
	v.To = r.IntN(len(v.Units))
	v.From = r.IntN(v.To + 1)
	return v
}

// anyRig returns a valid rig of up to n units, whose lengths are up to most.
func anyRig(t *testing.T, r *rand.Rand, n int, most int64) api.Rig {
	t.Helper()
	turn, e := plane.Half(from(r, -2048, 2048), from(r, 1, 2048))
	checkErr(t, "a half", e, api.OK)
	g := api.Rig{Vehicle: anyVehicle(r, n, most), Lift: some(r, 0, from(r, 0, 500)), Turn: some(r, turn, api.Rot{C: 1, N: 1})}
	g.Shift = some(r, api.Point{}, pt(from(r, -most, most), from(r, -most, most)))
	for range 1 + r.IntN(4) {
		on := r.IntN(len(g.Vehicle.Units)+1) - 1
		low := from(r, -100, 400)
		g.Sections = append(g.Sections, section(on, low, low+from(r, 0, 300), anyHull(r, 9, api.Point{}, most)...))
	}
	return g
}

// anyWay returns from 1 to n poses of a vehicle, near a point: steps, and jumps.
func anyWay(t *testing.T, r *rand.Rand, v api.Vehicle, n int, about api.Point, most int64) []api.Pose {
	t.Helper()
	var way []api.Pose
	wanted := 1 + r.IntN(n)
	for range 1000 {
		lead := near(r, about, most)
		p, e := chain.Straight(v, lead, near(r, lead, 9))
		if len(way) > 0 && r.IntN(3) > 0 {
			old := way[len(way)-1]
			p, e = chain.Step(v, old, near(r, old.Lead, 300), make([]int, len(v.Units)))
		}
		if e == api.OK {
			way = append(way, p)
		}
		if len(way) == wanted {
			return way
		}
	}
	t.Fatalf("no way of %v near %v is found", v, about)
	return nil
}

// anyObstacles returns up to n obstacles near points of a way.
func anyObstacles(r *rand.Rand, n int, way []api.Pose, most int64) []api.Obstacle {
	var l []api.Obstacle
	for range r.IntN(n + 1) {
		about := near(r, some(r, way...).Lead, most)
		low := from(r, -100, 800)
		l = append(l, obstacle(low, low+from(r, 0, 300), anyHull(r, 9, about, some(r, 1, most/8, most/2))...))
	}
	return l
}

// anyFamily returns a valid family whose guides go on from its start, in some steps each, most of them ahead or back.
func anyFamily(t *testing.T, r *rand.Rand) api.Family {
	t.Helper()
	most := some[int64](r, 100, 1000, 6000)
	f := api.Family{Rig: anyRig(t, r, 3, most), Step: from(r, most/4+10, 2*most), Margin: some(r, 0, from(r, 0, most/2))}
	v := f.Rig.Vehicle
	f.Start = anyWay(t, r, v, 1, some(r, pt(0, 0), pt(0, 0), pt(0, 0), pt(far-from(r, 0, 6*most), 0)), most/2)[0]
	lead, tail := f.Start.Lead, must[api.Point](t, "Joint")(chain.Joint(v, f.Start, len(v.Units)-1))
	way := plus(lead, f.Start.Axles[0], -1)
	for range 1 + r.IntN(3) {
		n := from(r, 0, 3)
		lead, tail = plus(lead, way, n), plus(tail, way, -n)
		var row []api.Choice
		for range 1 + r.IntN(3) {
			c := api.Choice{To: near(r, lead, most)}
			if r.IntN(4) == 0 {
				c = api.Choice{To: near(r, tail, most), Back: true}
			}
			if r.IntN(3) == 0 {
				k := r.IntN(len(v.Units))
				c.Steer = make([]int, len(v.Units))
				c.Steer[k] = r.IntN(2*v.Units[k].Most+1) - v.Units[k].Most
			}
			row = append(row, c)
		}
		f.Rows = append(f.Rows, row)
	}
	f.Obstacles = anyObstacles(r, some(r, 0, 3, 6), []api.Pose{f.Start}, 5*most)
	return f
}

// plus returns a point with n times another one.
func plus(p, q api.Point, n int64) api.Point { return pt(p.X+n*q.X, p.Y+n*q.Y) }

// must returns the result of a call that has no error.
func must[T any](t *testing.T, what string) func(T, api.Errno) T {
	return func(got T, e api.Errno) T {
		t.Helper()
		if e != api.OK {
			t.Fatalf("%s: error %d", what, e)
		}
		return got
	}
}

// shown is a value as a text; a nil list and an empty one have the same.
func shown(x any) string { return fmt.Sprintf("%v", x) }

// check reports a result with its error, if they are not as they should be; nil is the same as empty.
func check[T any](t *testing.T, what string, got T, e api.Errno, want T, wantErr api.Errno) {
	t.Helper()
	if shown(got) != shown(want) || e != wantErr {
		t.Errorf("%s: %v, %d, want %v, %d", what, got, e, want, wantErr)
	}
}

// checkErr reports an error that is not the one it should be.
func checkErr(t *testing.T, what string, got, want api.Errno) {
	t.Helper()
	if got != want {
		t.Errorf("%s: error %d, want %d", what, got, want)
	}
}

// checkHit reports a result of Try that is not as it should be.
func checkHit(t *testing.T, what string, f api.Family, choices []int, want api.Hit, wantOK bool, wantErr api.Errno) {
	t.Helper()
	hit, ok, e := sweep.Try(f, choices)
	if shown(hit) != shown(want) || ok != wantOK || e != wantErr {
		t.Errorf("%s: %v, %v, %d, want %v, %v, %d", what, hit, ok, e, want, wantOK, wantErr)
	}
}
