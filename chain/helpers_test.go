package chain_test

import (
	"math"
	"math/rand/v2"
	"slices"
	"testing"

	"gooseneck/api"
	"gooseneck/chain"
	"gooseneck/plane"
)

const far = api.MaxPlace

const size = api.MaxSize

// extremes are numbers at the limits of the chapter, one beyond them, and at the ends of the type.
var extremes = []int64{
	math.MinInt64, math.MinInt64 + 1, -1 << 32, -far - 1, -far, -size - 1, -size, -101, -100, -41, -40, -1,
	0, 1, 3, 4, 16, 17, 40, 41, 99, 100, 900, 901, 1000, 1999, 2000, size, size + 1, 1 << 20, 1<<20 + 1, far, far + 1,
	1 << 32, math.MaxInt64 - 1, math.MaxInt64,
}

// chance returns numbers that look like chance, and are the same in each run.
func chance(seed uint64) *rand.Rand { return rand.New(rand.NewPCG(seed, 3)) }

// from returns a number from low to high.
func from(r *rand.Rand, low, high int64) int64 { return low + r.Int64N(high-low+1) }

func pt(x, y int64) api.Point { return api.Point{X: x, Y: y} }

// pts returns the points with these coordinates, X and Y in turn.
func pts(c ...int64) []api.Point {
	var l []api.Point
	for i := 0; i < len(c); i += 2 {
		l = append(l, pt(c[i], c[i+1]))
	}
	return l
}

// pose returns the pose with these coordinates, of the lead and then of the points that are pulled.
func pose(c ...int64) api.Pose { return api.Pose{Lead: pt(c[0], c[1]), Axles: pts(c[2:]...)} }

// axle returns an axle, and unit a unit with one axle.
func axle(x, limit int64, wheels int) api.Axle { return api.Axle{X: x, Limit: limit, Wheels: wheels} }

func unit(kind int, length, behind int64) api.Unit {
	return api.Unit{Kind: kind, Length: length, Behind: behind, Mass: 1, Most: api.MaxSteer, Axles: []api.Axle{axle(length, 1000, 2)}}
}

// steered returns a unit whose axles are steered by the joint.
func steered(u api.Unit, steer int64) api.Unit {
	u.Steer = steer
	return u
}

// of returns a vehicle of units, whose load rests on all of them.
func of(units ...api.Unit) api.Vehicle {
	return api.Vehicle{Name: "a", Units: units, To: len(units) - 1}
}

// row returns a vehicle of n units that can be backed.
func row(n int) api.Vehicle {
	return of(slices.Repeat([]api.Unit{unit(api.UnitTractor, 3000, 1000)}, n)...)
}

// loaded returns a vehicle whose load rests on other units.
func loaded(v api.Vehicle, first, last int) api.Vehicle {
	v.From, v.To = first, last
	return v
}

// example is the vehicle of the chapter's examples.
func example() api.Vehicle {
	return api.Vehicle{Name: "v1", From: 1, To: 1, Units: []api.Unit{
		{Kind: api.UnitTractor, Length: 4000, Front: 1000, Rear: 1000, Width: 1250, Height: 3000, Mass: 9000, Axles: []api.Axle{axle(4000, 12000, 4)}},
		{Kind: api.UnitTrailer, Length: 8000, Front: 1000, Rear: 2000, Width: 1500, Height: 1000, Mass: 12000, Steer: 250, Most: 10, Axles: []api.Axle{axle(8000, 20000, 8)}},
	}}
}

// examplePose is the straight pose of the chapter's examples.
func examplePose() api.Pose { return pose(0, 0, -4000, 0, -10000, 0) }

// clone returns a vehicle that shares no memory with another one.
func clone(v api.Vehicle) api.Vehicle {
	v.Units = slices.Clone(v.Units)
	for i := range v.Units {
		v.Units[i].Axles = slices.Clone(v.Units[i].Axles)
	}
	return v
}

func same(a, b api.Vehicle) bool {
	return a.Name == b.Name && a.From == b.From && a.To == b.To && slices.EqualFunc(a.Units, b.Units, sameUnit)
}

func sameUnit(a, b api.Unit) bool {
	return a.Kind == b.Kind && a.Length == b.Length && a.Behind == b.Behind && a.Front == b.Front && a.Rear == b.Rear &&
		a.Width == b.Width && a.Height == b.Height && a.Mass == b.Mass && a.Steer == b.Steer && a.Most == b.Most &&
		slices.Equal(a.Axles, b.Axles)
}

func samePose(a, b api.Pose) bool { return a.Lead == b.Lead && slices.Equal(a.Axles, b.Axles) }

// anyUnit returns a valid unit with lengths of up to most.
func anyUnit(r *rand.Rand, most int64) api.Unit {
	u := api.Unit{
		Kind: r.IntN(4), Length: from(r, 100, most), Front: from(r, 0, most), Rear: from(r, 0, most), Width: from(r, 0, most),
		Height: from(r, 0, most), Mass: from(r, 1, api.MaxLoad), Steer: from(r, 0, 900), Most: r.IntN(api.MaxSteer + 1),
	}
	u.Behind = from(r, -u.Length, most)
	for range 1 + r.IntN(3) {
		u.Axles = append(u.Axles, axle(from(r, 0, u.Length+u.Rear), from(r, 1, api.MaxLoad), 1+r.IntN(16)))
	}
	slices.SortFunc(u.Axles, func(a, b api.Axle) int { return int(a.X - b.X) })
	return u
}

// anyVehicle returns a valid vehicle of from 1 to n units.
func anyVehicle(r *rand.Rand, n int, most int64) api.Vehicle {
	v := api.Vehicle{Name: []string{"a", "0", "abcdefghijklmnopqrst"}[r.IntN(3)]}
	for range 1 + r.IntN(n) {
		v.Units = append(v.Units, anyUnit(r, most))
	}
	v.Units[0].Kind = api.UnitTractor
	v.To = r.IntN(len(v.Units))
	v.From = r.IntN(v.To + 1)
	return v
}

// backed returns a vehicle whose units can all be backed.
func backed(r *rand.Rand, v api.Vehicle, most int64) api.Vehicle {
	v = clone(v)
	for i := range v.Units {
		v.Units[i].Behind, v.Units[i].Steer = from(r, 100, most), 0
	}
	return v
}

// anySteer returns a valid steering.
func anySteer(r *rand.Rand, v api.Vehicle) []int {
	var l []int
	for _, u := range v.Units {
		l = append(l, r.IntN(2)*(r.IntN(2*u.Most+1)-u.Most))
	}
	return l
}

func anyPoint(r *rand.Rand, most int64) api.Point {
	return pt(from(r, -most, most), from(r, -most, most))
}

// near returns a point that differs from another one by at most d in X, and in Y.
func near(r *rand.Rand, p api.Point, d int64) api.Point {
	return pt(p.X+from(r, -d, d), p.Y+from(r, -d, d))
}

// anyPose returns a valid pose of a vehicle, often one at the end of the place: each unit is turned by chance, and as far
// from its joint as it has to be.
func anyPose(t *testing.T, r *rand.Rand, v api.Vehicle, most int64) api.Pose {
	t.Helper()
	for range 1000 {
		p := api.Pose{Lead: anyPoint(r, most)}
		if r.IntN(3) == 0 {
			p.Lead.Y = far - from(r, 0, pulledOf(v.Units[0]))
		}
		for i := range v.Units {
			joint, e := jointOf(v, p, i)
			if e != api.OK {
				break
			}
			a, e := plane.Pull(joint, near(r, joint, 1000), pulledOf(v.Units[i]))
			if e != api.OK {
				break
			}
			p.Axles = append(p.Axles, a)
		}
		if chain.CheckPose(v, p) == api.OK {
			return p
		}
	}
	t.Fatalf("no pose of %v is found", v)
	return api.Pose{}
}

func amount(n int64) int64 { return max(n, -n) }

// must returns the result of a call that has no error.
func must[T any](t *testing.T, what string) func(T, api.Errno) T {
	return func(got T, e api.Errno) T {
		t.Helper()
		if e != api.OK {
			t.Fatalf("%s: error %d", what, e)
		}
		return got
	}
}

func distance(t *testing.T, a, b api.Point) int64 {
	t.Helper()
	return must[int64](t, "Distance")(plane.Distance(a, b))
}

func straight(t *testing.T, v api.Vehicle, lead, behind api.Point) api.Pose {
	t.Helper()
	return must[api.Pose](t, "Straight")(chain.Straight(v, lead, behind))
}

// check reports a result with its error, if they are not as they should be.
func check[T comparable](t *testing.T, what string, got T, e api.Errno, want T, wantErr api.Errno) {
	t.Helper()
	if got != want || e != wantErr {
		t.Errorf("%s: %v, %d, want %v, %d", what, got, e, want, wantErr)
	}
}

// checkPoints reports a list of points with its error, if they are not as they should be; nil is the same as empty.
func checkPoints(t *testing.T, what string, got []api.Point, e api.Errno, want []api.Point, wantErr api.Errno) {
	t.Helper()
	if !slices.Equal(got, want) || e != wantErr {
		t.Errorf("%s: %v, %d, want %v, %d", what, got, e, want, wantErr)
	}
}

// checkPose reports a pose with its error, if they are not as they should be.
func checkPose(t *testing.T, what string, got api.Pose, e api.Errno, want api.Pose, wantErr api.Errno) {
	t.Helper()
	if !samePose(got, want) || e != wantErr {
		t.Errorf("%s: %v, %d, want %v, %d", what, got, e, want, wantErr)
	}
}

// checkPoses reports a list of poses with its error, if they are not as they should be.
func checkPoses(t *testing.T, what string, got []api.Pose, e api.Errno, want []api.Pose, wantErr api.Errno) {
	t.Helper()
	if !slices.EqualFunc(got, want, samePose) || e != wantErr {
		t.Errorf("%s: %v, %d, want %v, %d", what, got, e, want, wantErr)
	}
}

// checkVehicle reports a vehicle with its error, if they are not as they should be.
func checkVehicle(t *testing.T, what string, got api.Vehicle, e api.Errno, want api.Vehicle, wantErr api.Errno) {
	t.Helper()
	if !same(got, want) || e != wantErr {
		t.Errorf("%s: %v, %d, want %v, %d", what, got, e, want, wantErr)
	}
}

// checkErr reports an error that is not the one it should be.
func checkErr(t *testing.T, what string, got, want api.Errno) {
	t.Helper()
	if got != want {
		t.Errorf("%s: error %d, want %d", what, got, want)
	}
}
