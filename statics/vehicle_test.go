package statics_test

import (
	"math"
	"slices"
	"testing"

	"gooseneck/api"
	"gooseneck/statics"
)

// ends is what both ends of a line carry.
type ends struct {
	a, b int64
}

func leverAt(mass, a, b, x int64) (ends, api.Errno) {
	front, rear, e := statics.Lever(mass, a, b, x)
	return ends{front, rear}, e
}

// P4.8
func TestLever(t *testing.T) {
	far := int64(api.MaxPlace)
	for _, x := range []struct {
		what          string
		mass, a, b, x int64
		want          ends
		e             api.Errno
	}{
		{"the example", 1000, 0, 3, 1, ends{667, 334}, api.OK},
		{"at the end a", 1000, -5, 5, -5, ends{1000, 0}, api.OK},
		{"at the end b", 1000, -5, 5, 5, ends{0, 1000}, api.OK},
		{"in the middle", 1001, -5, 5, 0, ends{501, 501}, api.OK},
		{"at all limits", 1 << 24, -far, far, far - 1, ends{1, 1 << 24}, api.OK},
		{"before a", 1000, 0, 3, -1, ends{}, api.ErrTip},
		{"behind b", 1000, 0, 3, 4, ends{}, api.ErrTip},
		{"no length", 1000, 3, 3, 3, ends{}, api.ErrZero},
		{"backwards", 1000, 3, 0, 1, ends{}, api.ErrZero},
		{"no length, and outside", 1000, 3, 3, 4, ends{}, api.ErrZero},
		{"a beyond", 1000, -far - 1, 3, 4, ends{}, api.ErrRange},
		{"b beyond", 1000, 0, far + 1, 4, ends{}, api.ErrRange},
		{"x beyond", 1000, 3, 3, far + 1, ends{}, api.ErrRange},
		{"x beyond, below 0", 1000, 3, 3, -far - 1, ends{}, api.ErrRange},
		{"any a", 1000, math.MinInt64, math.MaxInt64, 4, ends{}, api.ErrRange},
		{"any x", 1000, 0, 3, math.MinInt64, ends{}, api.ErrRange},
		{"no mass", 0, 3, 3, 4, ends{}, api.ErrRange},
		{"the greatest mass", 1 << 24, 0, 1, 1, ends{0, 1 << 24}, api.OK},
		{"above the greatest mass", 1<<24 + 1, 0, 1, 1, ends{}, api.ErrRange},
		{"any mass", math.MinInt64, 0, 1, 1, ends{}, api.ErrRange},
	} {
		got, e := leverAt(x.mass, x.a, x.b, x.x)
		check(t, x.what, got, e, x.want, x.e)
	}
}

// P4.8, P4.16: both ends together carry at least the mass, and at most 1 more; in the middle they carry alike.
func TestLeverAny(t *testing.T) {
	r := chance(12)
	for range 3000 {
		most := from(r, 1, api.MaxPlace)
		a := from(r, -most, most-1)
		b := from(r, a+1, most)
		x, mass := from(r, a, b), from(r, 1, 1<<from(r, 0, 24))
		span := whole(b - a)
		want := ends{upOf(ratio(times(whole(mass), whole(b-x)), span)), upOf(ratio(times(whole(mass), whole(x-a)), span))}
		got, e := leverAt(mass, a, b, x)
		check(t, "any", got, e, want, api.OK)
		if got.a+got.b < mass || got.a+got.b > mass+1 {
			t.Fatalf("%v carry %d", got, mass)
		}
		if (a+b)%2 == 0 {
			got, e := leverAt(mass, a, b, (a+b)/2)
			check(t, "in the middle", got, e, ends{(mass + 1) / 2, (mass + 1) / 2}, api.OK)
		}
	}
}

// unit returns a unit of a mass with some axles.
func unit(kind int, mass, limit int64, axles int) api.Unit {
	a := api.Axle{X: 500, Limit: limit, Wheels: 4}
	return api.Unit{Kind: kind, Length: 1000, Mass: mass, Axles: slices.Repeat([]api.Axle{a}, axles)}
}

// train is a vehicle of four units; its load is on the units from and to.
func train(from, to int) api.Vehicle {
	return api.Vehicle{Name: "v", From: from, To: to, Units: []api.Unit{
		unit(api.UnitTractor, 100, 1000, 2), unit(api.UnitDolly, 101, 1000, 2), unit(api.UnitModule, 50, 1000, 1), unit(api.UnitTrailer, 100, 1000, 3),
	}}
}

// P4.8
func TestAxles(t *testing.T) {
	for _, x := range []struct {
		what            string
		v               api.Vehicle
		mass, length, u int64
		want            []int64
		e               api.Errno
	}{
		{"on two units, one between", train(1, 3), 1000, 100, 25, []int64{50, 426, 50, 117}, api.OK},
		{"on the first one and the last one", train(0, 3), 1000, 3, 1, []int64{384, 51, 50, 145}, api.OK},
		{"on one unit", train(1, 1), 1000, 100, 25, []int64{50, 551, 50, 34}, api.OK},
		{"on the last one", train(3, 3), 1000, 100, 25, []int64{50, 51, 50, 367}, api.OK},
		{"at the front end", train(1, 3), 1000, 100, 0, []int64{50, 551, 50, 34}, api.OK},
		{"at the rear end", train(1, 3), 1000, 100, 100, []int64{50, 51, 50, 367}, api.OK},
		{"the carried masses are rounded, and then the loads", train(2, 3), 1, 2, 1, []int64{50, 51, 51, 34}, api.OK},
		{"at the limit", train(2, 3), 950, 100, 0, []int64{50, 51, 1000, 34}, api.OK},
		{"above the limit", train(2, 3), 951, 100, 0, nil, api.ErrLimit},
		{"at the limit when rounded", train(1, 3), 1899, 100, 0, []int64{50, 1000, 50, 34}, api.OK},
		{"above the limit when rounded", train(1, 3), 1900, 100, 0, nil, api.ErrLimit},
		{"at the limits of the length", train(2, 3), 950, 1 << 24, 0, []int64{50, 51, 1000, 34}, api.OK},
		{"the least length", train(2, 3), 950, 1, 0, []int64{50, 51, 1000, 34}, api.OK},
		{"before the front end", train(1, 1), 1 << 24, 100, -1, nil, api.ErrTip},
		{"behind the rear end", train(1, 1), 1 << 24, 100, 101, nil, api.ErrTip},
		{"any place", train(1, 3), 1, 100, math.MaxInt64, nil, api.ErrTip},
		{"any place below 0", train(1, 3), 1, 100, math.MinInt64, nil, api.ErrTip},
		{"no length", train(1, 3), 1000, 0, 1, nil, api.ErrRange},
		{"too long", train(1, 3), 1000, 1<<24 + 1, -1, nil, api.ErrRange},
		{"any length", train(1, 3), 1000, math.MinInt64, 0, nil, api.ErrRange},
		{"no mass", train(1, 3), 0, 100, 101, nil, api.ErrRange},
		{"the greatest mass", train(1, 3), 1 << 24, 100, 0, nil, api.ErrLimit},
		{"above the greatest mass", train(1, 3), 1<<24 + 1, 100, 0, nil, api.ErrRange},
		{"a vehicle that is not valid", train(1, 4), 0, 100, 0, nil, api.ErrArg},
		{"no vehicle", api.Vehicle{}, 0, 0, 0, nil, api.ErrArg},
		{"too many units", api.Vehicle{Units: slices.Repeat(train(0, 0).Units, 4)}, 0, 0, 0, nil, api.ErrMany},
	} {
		got, e := statics.Axles(x.v, x.mass, x.length, x.u)
		checkList(t, x.what, got, e, x.want, x.e)
	}
}

// P4.8: each axle has its own limit, also one of a unit that carries nothing.
func TestAxlesOfUnlikeLimits(t *testing.T) {
	loads := []int64{50, 426, 50, 117}
	for i, load := range loads {
		v := train(1, 3)
		for k := range v.Units[i].Axles {
			v.Units[i].Axles[k].Limit = load
		}
		got, e := statics.Axles(v, 1000, 100, 25)
		checkList(t, "at a limit", got, e, loads, api.OK)
		v.Units[i].Axles[len(v.Units[i].Axles)-1].Limit--
		got, e = statics.Axles(v, 1000, 100, 25)
		checkList(t, "above a limit", got, e, nil, api.ErrLimit)
	}
}

// P4.8: vehicles of all kinds, against numbers of any size.
func TestAxlesAny(t *testing.T) {
	r := chance(13)
	for range 1000 {
		v := api.Vehicle{Name: "any"}
		for i := range 1 + r.IntN(12) {
			v.Units = append(v.Units, unit(min(i, 3), from(r, 1, 1<<from(r, 0, 20)), 1<<20, 1+r.IntN(24)))
		}
		v.To = r.IntN(len(v.Units))
		v.From = r.IntN(v.To + 1)
		length := from(r, 1, 1<<from(r, 0, 24))
		u, mass := from(r, 0, length), from(r, 1, 1<<from(r, 0, 20))
		carried := make([]int64, len(v.Units))
		carried[v.From] = upOf(ratio(times(whole(mass), whole(length-u)), whole(length)))
		carried[v.To] = upOf(ratio(times(whole(mass), whole(u)), whole(length)))
		if v.From == v.To {
			carried[v.From] = mass
		}
		var want []int64
		wantErr := api.OK
		for i, x := range v.Units {
			want = append(want, upOf(ratio(whole(x.Mass+carried[i]), whole(int64(len(x.Axles))))))
			if want[i] > 1<<20 {
				wantErr = api.ErrLimit
			}
		}
		if wantErr != api.OK {
			want = nil
		}
		got, e := statics.Axles(v, mass, length, u)
		checkList(t, "any", got, e, want, wantErr)
	}
}
