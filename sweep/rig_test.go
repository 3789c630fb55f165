package sweep_test

import (
	"math"
	"slices"
	"testing"

	"gooseneck/api"
	"gooseneck/sweep"
)

// P5.1
func TestCheckRigMany(t *testing.T) {
	s := section(0, 0, 1, pt(0, 0))
	bad := row(2)
	bad.Name = ""
	for _, x := range []struct {
		what     string
		v        api.Vehicle
		sections int
		want     api.Errno
	}{
		{"no sections", row(2), 0, api.ErrArg},
		{"one section", row(2), 1, api.OK},
		{"as many as there may be", row(2), 24, api.OK},
		{"one too many", row(2), 25, api.ErrMany},
		{"one too many, the vehicle not valid", bad, 25, api.ErrMany},
		{"the vehicle not valid", bad, 24, api.ErrArg},
		{"no vehicle", api.Vehicle{}, 1, api.ErrArg},
		{"too many units", row(13), 1, api.ErrMany},
		{"too many units, and no sections", row(13), 0, api.ErrMany},
	} {
		checkErr(t, x.what, sweep.CheckRig(rig(x.v, slices.Repeat([]api.Section{s}, x.sections)...)), x.want)
	}
	checkErr(t, "nothing at all", sweep.CheckRig(api.Rig{}), api.ErrArg)
}

// P5.1
func TestCheckRigNumbers(t *testing.T) {
	for _, x := range []struct {
		what   string
		change func(r *api.Rig, n int64)
		ok     []int64
		bad    []int64
	}{
		{"On", func(r *api.Rig, n int64) { r.Sections[1].On = int(n) }, []int64{-1, 0, 1}, []int64{-2, 2, math.MinInt64, math.MaxInt64}},
		{"Low", func(r *api.Rig, n int64) { r.Sections[1].Low = n }, []int64{-top, 0, 500}, []int64{-top - 1, 501, math.MinInt64, math.MaxInt64}},
		{"High", func(r *api.Rig, n int64) { r.Sections[1].High = n }, []int64{100, 101, top}, []int64{99, top + 1, math.MinInt64, math.MaxInt64}},
		{"X of a corner", func(r *api.Rig, n int64) { r.Sections[1].Hull[1].X = n }, []int64{1, size}, []int64{-size, 0, size + 1, math.MinInt64, math.MaxInt64}},
		{"Y of a corner", func(r *api.Rig, n int64) { r.Sections[1].Hull[1].Y = n }, []int64{-size, size}, []int64{-size - 1, size + 1, math.MinInt64, math.MaxInt64}},
		{"X of the first corner", func(r *api.Rig, n int64) { r.Sections[1].Hull[0].X = n }, []int64{-size, 0}, []int64{-size - 1, 10, 11, math.MinInt64, math.MaxInt64}},
		{"Lift", func(r *api.Rig, n int64) { r.Lift = n }, []int64{0, 1, top}, []int64{-1, top + 1, math.MinInt64, math.MaxInt64}},
		{"X of the shift", func(r *api.Rig, n int64) { r.Shift.X = n }, []int64{-size, size}, []int64{-size - 1, size + 1, math.MinInt64, math.MaxInt64}},
		{"Y of the shift", func(r *api.Rig, n int64) { r.Shift.Y = n }, []int64{-size, size}, []int64{-size - 1, size + 1, math.MinInt64, math.MaxInt64}},
		{"N of the turn", func(r *api.Rig, n int64) { r.Turn = api.Rot{C: n, N: n} }, []int64{1, 1 << 24}, []int64{-1, 0, 1<<24 + 1, math.MinInt64, math.MaxInt64}},
		{"S of the turn", func(r *api.Rig, n int64) { r.Turn = api.Rot{C: 3, S: n, N: 5} }, []int64{4, -4}, []int64{0, 3, 5, math.MinInt64, math.MaxInt64}},
	} {
		try := func(n int64, want api.Errno) {
			r := rig(row(2), section(0, 0, 1, pt(0, 0)), section(1, 100, 500, pts(0, 0, 10, 0)...), section(-1, 0, 1, pt(0, 0)))
			if x.what == "X of the first corner" {
				r.Sections[1].Hull[0].Y = 1
			}
			x.change(&r, n)
			if got := sweep.CheckRig(r); got != want {
				t.Errorf("%s is %d: error %d, want %d", x.what, n, got, want)
			}
		}
		for _, n := range x.ok {
			try(n, api.OK)
		}
		for _, n := range x.bad {
			try(n, api.ErrArg)
		}
	}
}

// hulls are lists with whether they are hulls of at most 16 corners.
func hulls() map[string]struct {
	l  []api.Point
	ok bool
} {
	return map[string]struct {
		l  []api.Point
		ok bool
	}{
		"a point":                {pts(3, 4), true},
		"two points":             {pts(3, 4, 3, 9), true},
		"a box":                  {box(0, 0, 9, 9), true},
		"16 corners":             {round(0, 0, 9), true},
		"17 corners":             {append(round(0, 0, 9), pt(-74, 0)), false},
		"17 corners of a hull":   {slices.Insert(round(0, 0, 9), 8, pt(73, 0)), false},
		"no corners":             {nil, false},
		"a corner twice":         {pts(3, 4, 3, 4), false},
		"clockwise":              {pts(0, 0, 0, 9, 9, 9, 9, 0), false},
		"from another corner":    {pts(9, 0, 9, 9, 0, 9, 0, 0), false},
		"a corner between":       {pts(0, 0, 5, 0, 9, 0, 9, 9, 0, 9), false},
		"more than a list takes": {make([]api.Point, 257), false},
	}
}

// P5.1
func TestCheckHulls(t *testing.T) {
	for what, x := range hulls() {
		want := api.ErrArg
		if x.ok {
			want = api.OK
		}
		fine := section(0, 0, 1, pt(0, 0))
		checkErr(t, "a section of "+what, sweep.CheckRig(rig(row(1), fine, section(-1, 0, 1, x.l...))), want)
		checkErr(t, "an obstacle of "+what, sweep.CheckObstacles(append(wall(0, 1), obstacle(0, 1, x.l...))), want)
	}
}

// P5.1
func TestCheckObstacles(t *testing.T) {
	o := obstacle(0, 0, pt(0, 0))
	for _, x := range []struct {
		what string
		l    []api.Obstacle
		want api.Errno
	}{
		{"none", nil, api.OK},
		{"the example", wall(0, 100), api.OK},
		{"as many as there may be", slices.Repeat([]api.Obstacle{o}, 64), api.OK},
		{"one too many", slices.Repeat([]api.Obstacle{o}, 65), api.ErrMany},
		{"one too many, not valid", make([]api.Obstacle, 65), api.ErrMany},
		{"the last one not valid", append(wall(0, 100), api.Obstacle{}), api.ErrArg},
		{"at the ends of the place", []api.Obstacle{obstacle(-top, top, box(-far, -far, far, far)...)}, api.OK},
		{"beyond the place", []api.Obstacle{obstacle(0, 0, pt(0, -far-1))}, api.ErrArg},
		{"far beyond the place", []api.Obstacle{obstacle(0, 0, pt(math.MinInt64, 0))}, api.ErrArg},
		{"too low", []api.Obstacle{obstacle(-top-1, 0, pt(0, 0))}, api.ErrArg},
		{"too high", []api.Obstacle{obstacle(0, top+1, pt(0, 0))}, api.ErrArg},
		{"above itself", []api.Obstacle{obstacle(1, 0, pt(0, 0))}, api.ErrArg},
		{"far too low", []api.Obstacle{obstacle(math.MinInt64, math.MinInt64, pt(0, 0))}, api.ErrArg},
		{"far too high", []api.Obstacle{obstacle(math.MaxInt64, math.MaxInt64, pt(0, 0))}, api.ErrArg},
	} {
		checkErr(t, x.what, sweep.CheckObstacles(x.l), x.want)
	}
}

// P5.1
func TestBodies(t *testing.T) {
	whole := api.Unit{Length: 4000, Front: 900, Rear: 800, Width: 1200, Height: 3000, Mass: 1, Axles: []api.Axle{{X: 1, Limit: 1, Wheels: 1}}}
	half := whole
	half.Steer, half.Height, half.Behind = 250, 100, -1000
	thin := whole
	thin.Width = 0
	least := api.Unit{Length: 100, Steer: 900, Mass: 1, Axles: []api.Axle{{X: 1, Limit: 1, Wheels: 1}}}
	for _, x := range []struct {
		what string
		v    api.Vehicle
		low  int64
		want []api.Section
		e    api.Errno
	}{
		{"the example", example().Vehicle, 0, example().Sections, api.OK},
		{"units that are steered by the joint", of(whole, half), 50, []api.Section{
			section(0, 50, 3000, box(-800, -1200, 4900, 1200)...), section(1, 50, 100, box(-1800, -1200, 3900, 1200)...),
		}, api.OK},
		{"no width", of(thin), 3000, []api.Section{section(0, 3000, 3000, pts(-800, 0, 4900, 0)...)}, api.OK},
		{"no width, and no ends", of(least), -top, []api.Section{section(0, -top, 0, pts(-90, 0, 10, 0)...)}, api.OK},
		{"a height below", of(whole, half), 101, nil, api.ErrArg},
		{"too low", of(whole, half), -top - 1, nil, api.ErrRange},
		{"too high", of(whole, half), top + 1, nil, api.ErrRange},
		{"far too low", of(whole), math.MinInt64, nil, api.ErrRange},
		{"the front at the limit", of(sized(whole, 31072, 100000, 0)), 0, []api.Section{section(0, 0, 3000, box(0, -1200, size, 1200)...)}, api.OK},
		{"the front beyond", of(whole, sized(whole, 31073, 100000, 0)), 0, nil, api.ErrOver},
		{"the rear at the limit", of(sized(whole, 100, 0, size)), 0, []api.Section{section(0, 0, 3000, box(-size, -1200, 100, 1200)...)}, api.OK},
		{"the rear beyond", of(jointed(sized(whole, 1000, 0, size), 1), whole), 0, nil, api.ErrOver},
		{"all as large as it may be", of(sized(whole, size, size, size)), 0, nil, api.ErrOver},
		{"a height below, and the front beyond", of(sized(whole, size, size, size)), 3001, nil, api.ErrArg},
		{"a vehicle that is not valid", of(api.Unit{}), top + 1, nil, api.ErrArg},
		{"too many units", row(13), top + 1, nil, api.ErrMany},
		{"as many units as there may be", row(12), 0, onRowBodies(12), api.OK},
	} {
		got, e := sweep.Bodies(x.v, x.low)
		check(t, x.what, got, e, x.want, x.e)
		if e == api.OK {
			checkErr(t, x.what+": the rig", sweep.CheckRig(rig(x.v, got...)), api.OK)
		}
	}
}

func sized(u api.Unit, length, front, rear int64) api.Unit {
	u.Length, u.Front, u.Rear = length, front, rear
	return u
}

func jointed(u api.Unit, steer int64) api.Unit {
	u.Steer = steer
	return u
}

func onRowBodies(n int) []api.Section {
	var l []api.Section
	for i := range n {
		l = append(l, section(i, 0, 1000, box(0, -500, 1000, 500)...))
	}
	return l
}
