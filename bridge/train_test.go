package bridge_test

import (
	"math"
	"math/rand/v2"
	"slices"
	"testing"

	"gooseneck/api"
	"gooseneck/bridge"
)

// unit returns a unit with axles at some places.
func unit(kind int, length, behind int64, axles ...int64) api.Unit {
	u := api.Unit{Kind: kind, Length: length, Behind: behind, Rear: api.MaxSize, Mass: 1}
	for _, x := range axles {
		u.Axles = append(u.Axles, api.Axle{X: x, Limit: 1, Wheels: 1})
	}
	return u
}

// vehicle returns a vehicle of some units.
func vehicle(units ...api.Unit) api.Vehicle { return api.Vehicle{Name: "v", Units: units} }

// row returns n places, each a step behind the one before it.
func row(n int, step int64) []int64 {
	var l []int64
	for i := range int64(n) {
		l = append(l, i*step)
	}
	return l
}

// P6.2
func TestTrain(t *testing.T) {
	tractor := unit(api.UnitTractor, 4000, -500, 300, 4000)
	trailer := unit(api.UnitTrailer, 8000, 700, 400, 8000)
	bad := tractor
	bad.Length = 99
	steered := trailer
	steered.Steer = 250
	for _, x := range []struct {
		what  string
		v     api.Vehicle
		loads []int64
		want  []api.Force
		e     api.Errno
	}{
		{"a tractor", vehicle(tractor), []int64{5}, forces(0, 5, 3700, 5), api.OK},
		{"a trailer with an axle between those of the tractor", vehicle(tractor, trailer), []int64{5, 6}, forces(0, 5, 3600, 6, 3700, 5, 11200, 6), api.OK},
		{"what is steered is as far behind", vehicle(tractor, steered), []int64{5, 6}, forces(0, 5, 3600, 6, 3700, 5, 11200, 6), api.OK},
		{"three units", vehicle(tractor, trailer, trailer), []int64{5, 6, 0}, forces(0, 5, 3600, 6, 3700, 5, 11200, 6, 12300, 0, 19900, 0), api.OK},
		{"axles at the same place", vehicle(unit(0, 400, 0, 100, 400), unit(2, 400, 0, 0, 0, 400)), []int64{1, 2}, forces(0, 1, 300, 1, 300, 2, 300, 2, 700, 2), api.OK},
		{"of several at a place the first unit is the first", vehicle(unit(0, 400, 0, 900), unit(2, 400, 0, 500, 500), unit(3, 400, 0, 100)), []int64{3, 2, 1}, forces(0, 3, 0, 2, 0, 2, 0, 1), api.OK},
		{"the last unit is ahead", vehicle(unit(0, 400, -400, 900), unit(2, 400, 0, 100)), []int64{7, 8}, forces(0, 8, 800, 7), api.OK},
		{"no loads", vehicle(tractor, trailer), []int64{0, 0}, forces(0, 0, 3600, 0, 3700, 0, 11200, 0), api.OK},
		{"the greatest load", vehicle(tractor), []int64{1 << 20}, forces(0, 1<<20, 3700, 1<<20), api.OK},
		{"a load above it", vehicle(tractor, trailer), []int64{5, 1<<20 + 1}, nil, api.ErrRange},
		{"a load below 0", vehicle(tractor, trailer), []int64{-1, 6}, nil, api.ErrRange},
		{"any load", vehicle(tractor, trailer), []int64{math.MaxInt64, math.MinInt64}, nil, api.ErrRange},
		{"a load missing", vehicle(tractor, trailer), []int64{-1}, nil, api.ErrEqual},
		{"a load too many", vehicle(tractor, trailer), []int64{1, 2, -3}, nil, api.ErrEqual},
		{"a load missing of too many axles", vehicle(unit(0, 400, 0, row(24, 1)...), unit(2, 400, 0, row(24, 1)...), unit(2, 400, 0, row(17, 1)...)), nil, nil, api.ErrEqual},
		{"as many axles as can be", vehicle(unit(0, 400, 0, row(24, 1)...), unit(2, 400, 0, row(24, 1)...), unit(2, 400, 0, row(16, 1)...)), []int64{1, 1, 1},
			slices.Concat(repeated(24, 1, 1), moved(repeated(24, 1, 1), 400), moved(repeated(16, 1, 1), 800)), api.OK},
		{"too many axles", vehicle(unit(0, 400, 0, row(24, 1)...), unit(2, 400, 0, row(24, 1)...), unit(2, 400, 0, row(17, 1)...)), []int64{1, 1, 1}, nil, api.ErrOver},
		{"a load above it of too many axles", vehicle(unit(0, 400, 0, row(24, 1)...), unit(2, 400, 0, row(24, 1)...), unit(2, 400, 0, row(17, 1)...)), []int64{1, 1, 1 << 21}, nil, api.ErrRange},
		{"as long as can be", vehicle(unit(0, 1<<17, 1<<16, 100), unit(2, 1<<16, 0, 100+1<<16)), []int64{1, 2}, forces(0, 1, 1<<18, 2), api.OK},
		{"too long", vehicle(unit(0, 1<<17, 1<<16, 100), unit(2, 1<<16, 0, 101+1<<16)), []int64{1, 2}, nil, api.ErrOver},
		{"a vehicle that is not valid", vehicle(bad), []int64{-1, -1}, nil, api.ErrArg},
		{"no vehicle", api.Vehicle{}, nil, nil, api.ErrArg},
		{"too many units", vehicle(slices.Repeat([]api.Unit{tractor}, 13)...), nil, nil, api.ErrMany},
	} {
		got, e := bridge.Train(x.v, x.loads)
		checkList(t, x.what, got, e, x.want, x.e)
	}
}

// moved returns axles that are farther behind.
func moved(t []api.Force, by int64) []api.Force {
	t = slices.Clone(t)
	for i := range t {
		t[i].X += by
	}
	return t
}

// anyVehicle returns a vehicle of up to n units with up to axles axles each, and loads for it.
func anyVehicle(r *rand.Rand, n, axles, most int64) (api.Vehicle, []int64) {
	v := api.Vehicle{Name: "any"}
	var loads []int64
	for i := range from(r, 1, n) {
		length := from(r, 100, 100+most)
		u := api.Unit{Kind: int(min(i, 3)), Length: length, Behind: from(r, -length, most), Rear: from(r, 0, most), Mass: 1}
		for range from(r, 1, axles) {
			u.Axles = append(u.Axles, api.Axle{X: from(r, 0, u.Length+u.Rear), Limit: 1, Wheels: 1})
		}
		slices.SortFunc(u.Axles, func(a, b api.Axle) int { return int(a.X - b.X) })
		v.Units, loads = append(v.Units, u), append(loads, from(r, 0, 1<<20))
	}
	return v, loads
}

// P6.2: vehicles of all kinds, with each axle put behind those that are as far ahead.
func TestTrainAny(t *testing.T) {
	r := chance(1)
	fine := 0
	for range 2000 {
		v, loads := anyVehicle(r, 12, 1+r.Int64N(12), 1<<from(r, 0, 16))
		var want []api.Force
		for i, u := range v.Units {
			at := int64(0)
			for _, before := range v.Units[:i] {
				at += before.Length + before.Behind
			}
			for _, a := range u.Axles {
				k := len(want)
				for k > 0 && want[k-1].X > at+a.X {
					k--
				}
				want = slices.Insert(want, k, api.Force{X: at + a.X, P: loads[i]})
			}
		}
		want, wantErr := moved(want, -want[0].X), api.OK
		if len(want) > 64 || want[len(want)-1].X > 1<<18 {
			want, wantErr = nil, api.ErrOver
		} else {
			fine++
		}
		got, e := bridge.Train(v, loads)
		checkList(t, "any", got, e, want, wantErr)
	}
	if fine < 1000 {
		t.Errorf("only %d are trains", fine)
	}
}
