package bridge_test

import (
	"math"
	"testing"

	"gooseneck/api"
	"gooseneck/bridge"
)

// P6.8
func TestPressure(t *testing.T) {
	for _, x := range []struct {
		what        string
		train       []api.Force
		cover, wide int64
		want        int64
		e           api.Errno
	}{
		{"the example", two(), 850, 2500, 2858, api.OK},
		{"one axle", forces(0, 3), 0, 1000, 10, api.OK},
		{"rounded up", forces(0, 4), 0, 1000, 14, api.OK},
		{"axles just near enough", forces(0, 30, 300, 60), 0, 1000, 300, api.OK},
		{"axles just too far apart", forces(0, 30, 301, 60), 0, 1000, 200, api.OK},
		{"the axles behind are more", forces(0, 100, 301, 70, 601, 80), 0, 1000, 500, api.OK},
		{"the axles ahead are more", forces(0, 100, 300, 80, 601, 70), 0, 1000, 600, api.OK},
		{"the axles between are more", forces(0, 100, 301, 70, 400, 80, 702, 90), 0, 1000, 500, api.OK},
		{"a cover reaches farther", forces(0, 100, 301, 70, 601, 80), 1, 1000, 562, api.OK},
		{"axles at the same place", forces(0, 1, 0, 2, 0, 3), 0, 1000, 20, api.OK},
		{"no loads", forces(0, 0, 5, 0), 0, 100, 0, api.OK},
		{"the greatest one", forcesAt0(64, 1<<20), 0, 100, 2236962134, api.OK},
		{"the greatest cover", two(), 1 << 14, 10000, 17, api.OK},
		{"above the greatest cover", two(), 1<<14 + 1, 10000, 0, api.ErrRange},
		{"a cover below 0", two(), -1, 10000, 0, api.ErrRange},
		{"any cover", two(), math.MaxInt64, 10000, 0, api.ErrRange},
		{"the least width", forces(0, 3), 0, 100, 100, api.OK},
		{"too little width", forces(0, 3), 0, 99, 0, api.ErrRange},
		{"any width", forces(0, 3), 0, math.MinInt64, 0, api.ErrRange},
		{"the greatest width", forces(0, 3), 0, 10000, 1, api.OK},
		{"too much width", forces(0, 3), 0, 10001, 0, api.ErrRange},
		{"no train", nil, -1, 99, 0, api.ErrMany},
		{"a train that is not valid", forces(0, -1), -1, 99, 0, api.ErrArg},
	} {
		got, e := bridge.Pressure(x.train, x.cover, x.wide)
		check(t, x.what, got, e, x.want, x.e)
	}
}

// P6.8: trains of all kinds, against sums for all places.
func TestPressureAny(t *testing.T) {
	r := chance(7)
	for range 300 {
		train := anyTrain(r, 1+r.Int64N(10), 1<<from(r, 0, 12), 1<<from(r, 0, 20))
		cover, wide := from(r, 0, 1<<from(r, 0, 10)), from(r, 100, 10000)
		got, e := bridge.Pressure(train, cover, wide)
		check(t, "any", got, e, pressureOf(train, cover, wide), api.OK)
	}
}

// pavement returns a pavement.
func pavement(load, life int64, power int) api.Pavement {
	return api.Pavement{Load: load, Life: life, Power: power}
}

// P6.9
func TestCheckPavement(t *testing.T) {
	for _, x := range []struct {
		what string
		p    api.Pavement
		want api.Errno
	}{
		{"the example", pavement(10000, 1000, 4), api.OK},
		{"the least", pavement(1, 1, 1), api.OK},
		{"the greatest", pavement(1<<20, 1<<20, 6), api.OK},
		{"no load", pavement(0, 1, 1), api.ErrArg},
		{"a load above the limit", pavement(1<<20+1, 1, 1), api.ErrArg},
		{"any load", pavement(math.MinInt64, 1, 1), api.ErrArg},
		{"no life", pavement(1, 0, 1), api.ErrArg},
		{"a life above the limit", pavement(1, 1<<20+1, 1), api.ErrArg},
		{"any life", pavement(1, math.MaxInt64, 1), api.ErrArg},
		{"no power", pavement(1, 1, 0), api.ErrArg},
		{"a power above the limit", pavement(1, 1, 7), api.ErrArg},
		{"any power", pavement(1, 1, math.MinInt), api.ErrArg},
		{"no pavement", api.Pavement{}, api.ErrArg},
	} {
		checkErr(t, x.what, bridge.CheckPavement(x.p), x.want)
		got, e := bridge.Damage(x.p, forces(0, 0), 1)
		check(t, x.what, got, e, 0, x.want)
	}
}

// P6.9
func TestDamage(t *testing.T) {
	million := int64(1000000)
	for _, x := range []struct {
		what   string
		p      api.Pavement
		train  []api.Force
		passes int64
		want   int64
		e      api.Errno
	}{
		{"the example", pavement(10000, 1000, 4), two(), 1, 4148, api.OK},
		{"the example without passes", pavement(10000, 1000, 4), two(), 0, 0, api.OK},
		{"the power 1", pavement(3, 7, 1), forces(0, 5), 1, 238143, api.OK},
		{"the power 2", pavement(3, 7, 2), forces(0, 5), 2, 794000, api.OK},
		{"the power 3", pavement(3, 1000, 3), forces(0, 5), 1, 4633, api.OK},
		{"the power 6", pavement(2, 1000, 6), forces(0, 3), 1, 11393, api.OK},
		{"little loads", pavement(3, 1000, 6), forces(0, 1), 1, 2, api.OK},
		{"a load of nearly nothing", pavement(1<<20, 1000, 6), forces(0, 1), 1, 1, api.OK},
		{"the wears are rounded one by one", pavement(3000, 1000, 1), forces(0, 1, 1, 1, 2, 1), 1, 3, api.OK},
		{"the damage is rounded once", pavement(1000, 1500, 1), forces(0, 1), 4, 3, api.OK},
		{"no loads", pavement(1, 1, 6), forces(0, 0, 1, 0), 1 << 20, 0, api.OK},
		{"the load for the life", pavement(777, 4321, 5), forces(0, 777), 4321, million, api.OK},
		{"the greatest number of passes", pavement(777, 1<<20, 5), forces(0, 777), 1 << 20, million, api.OK},
		{"too many passes", pavement(777, 1<<20, 5), forces(0, 777), 1<<20 + 1, 0, api.ErrRange},
		{"passes below 0", pavement(777, 1<<20, 5), forces(0, 777), -1, 0, api.ErrRange},
		{"any passes", pavement(777, 1<<20, 5), forces(0, 777), math.MaxInt64, 0, api.ErrRange},
		{"the greatest wear of the power 1", pavement(1, 1, 1), forces(0, 1<<20), 1, 1048576000 * 1000, api.OK},
		{"a wear below the limit", pavement(1, 1, 2), forces(0, 1036), 1 << 20, 1073296000 * 1000 << 20, api.OK},
		{"a wear above the limit", pavement(1, 1, 2), forces(0, 1037), 0, 0, api.ErrOver},
		{"a wear above the limit, and a last one below it", pavement(1, 1, 2), forces(0, 1037, 1, 1), 0, 0, api.ErrOver},
		{"a wear far above the limit on the way", pavement(1, 1, 6), forces(0, 1<<20), 1, 0, api.ErrOver},
		{"all wears far above the limit", pavement(1, 1, 6), forcesAt0(64, 1<<20), 1, 0, api.ErrOver},
		{"a sum at the limit", pavement(100, 1, 2), forces(0, 81199, 1, 64375), 1, 1 << 30 * 1000, api.OK},
		{"the greatest damage", pavement(100, 1, 2), forces(0, 81199, 1, 64375), 1 << 20, 1 << 50 * 1000, api.OK},
		{"a sum above the limit", pavement(100, 1, 2), forces(0, 81199, 1, 64375, 2, 1), 1, 0, api.ErrOver},
		{"too many passes of a wear above the limit", pavement(1, 1, 2), forces(0, 1037), 1<<20 + 1, 0, api.ErrRange},
		{"no train", pavement(1, 1, 3), nil, -1, 0, api.ErrMany},
		{"a train that is not valid", pavement(1, 1, 3), forces(0, -1), -1, 0, api.ErrArg},
		{"a pavement that is not valid", pavement(1, 1, 7), nil, -1, 0, api.ErrArg},
	} {
		got, e := bridge.Damage(x.p, x.train, x.passes)
		check(t, x.what, got, e, x.want, x.e)
	}
}

// P6.9
func TestLeft(t *testing.T) {
	p := pavement(3, 7, 2)
	for _, x := range []struct {
		what  string
		p     api.Pavement
		train []api.Force
		done  int64
		want  int64
		e     api.Errno
	}{
		{"nothing is done", p, forces(0, 5), 0, 2, api.OK},
		{"two are left just so", p, forces(0, 5), 206000, 2, api.OK},
		{"one is left", p, forces(0, 5), 206001, 1, api.OK},
		{"one is left just so", p, forces(0, 5), 603000, 1, api.OK},
		{"none is left", p, forces(0, 5), 603001, 0, api.OK},
		{"all is done", p, forces(0, 5), 1000000, 0, api.OK},
		{"more than all is done", p, forces(0, 5), 1000001, 0, api.ErrRange},
		{"less than nothing is done", p, forces(0, 5), -1, 0, api.ErrRange},
		{"any is done", p, forces(0, 5), math.MinInt64, 0, api.ErrRange},
		{"the load for its life", pavement(777, 4321, 6), forces(0, 777), 0, 4321, api.OK},
		{"as many as can be", pavement(777, 1<<20, 6), forces(0, 777), 0, 1 << 20, api.OK},
		{"one less than can be", pavement(777, 1<<20, 6), forces(0, 777), 1, 1<<20 - 2, api.OK},
		{"more than can be", pavement(777, 1<<20, 6), forces(0, 1), 999000, 1 << 20, api.OK},
		{"all is done, with a little load", pavement(777, 1<<20, 6), forces(0, 1), 1000000, 0, api.OK},
		{"a sum at the limit", pavement(100, 1<<20, 2), forces(0, 81199, 1, 64375), 0, 0, api.OK},
		{"a sum above the limit", pavement(100, 1<<20, 2), forces(0, 81199, 1, 64375, 2, 1), 0, 0, api.ErrOver},
		{"a wear above the limit", pavement(1, 1, 2), forces(0, 1037), 0, 0, api.ErrOver},
		{"wears far above the limit", pavement(1, 1, 6), forcesAt0(64, 1<<20), 0, 0, api.ErrOver},
		{"more than all is done, and a wear above the limit", pavement(1, 1, 2), forces(0, 1037), 1000001, 0, api.ErrRange},
		{"no loads", p, forces(0, 0, 1, 0), 0, 0, api.ErrNone},
		{"no loads, and all is done", p, forces(0, 0), 1000000, 0, api.ErrNone},
		{"no loads, and more than all is done", p, forces(0, 0), 1000001, 0, api.ErrRange},
		{"no train", p, nil, -1, 0, api.ErrMany},
		{"a train that is not valid", p, forces(0, -1), -1, 0, api.ErrArg},
		{"a pavement that is not valid", pavement(0, 1, 3), nil, -1, 0, api.ErrArg},
	} {
		got, e := bridge.Left(x.p, x.train, x.done)
		check(t, x.what, got, e, x.want, x.e)
	}
}

// P6.9: pavements and trains of all kinds, against the words of the chapter.
func TestWearAny(t *testing.T) {
	r := chance(8)
	over, between := 0, 0
	for range 3000 {
		p := pavement(from(r, 1, 1<<from(r, 0, 20)), from(r, 1, 1<<from(r, 0, 20)), 1+r.IntN(6))
		load := p.Load << from(r, 0, 3)
		if r.IntN(4) == 0 {
			load = 1 << 20
		}
		train := anyTrain(r, 1+r.Int64N(12), 1<<18, min(load, 1<<20))
		passes, done := from(r, 0, 1<<from(r, 0, 20)), 1000000-from(r, 0, 1000000)/(1<<from(r, 0, 20))
		if r.IntN(2) == 0 {
			done = 1000000 - done
		}
		want, wantErr := damageOf(p, train, passes)
		got, e := bridge.Damage(p, train, passes)
		check(t, "a damage", got, e, want, wantErr)
		want, wantErr = leftOf(p, train, done)
		got, e = bridge.Left(p, train, done)
		check(t, "what is left", got, e, want, wantErr)
		if e == api.ErrOver {
			over++
		} else if 0 < got && got < api.MaxPasses {
			between++
		}
	}
	if over < 100 || between < 500 {
		t.Errorf("%d are over, and %d are between", over, between)
	}
}
