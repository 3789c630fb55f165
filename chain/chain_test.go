package chain_test

import (
	"math"
	"slices"
	"strings"
	"testing"

	"gooseneck/api"
	"gooseneck/chain"
)

// P3.1: how many units and axles there are comes ahead of what they are.
func TestCheckMany(t *testing.T) {
	for _, x := range []struct {
		what         string
		units, axles int
		name         string
		want         api.Errno
	}{
		{"no units", 0, 1, "a", api.ErrArg},
		{"one unit", 1, 1, "a", api.OK},
		{"as many units as there may be", 12, 1, "a", api.OK},
		{"a unit too many", 13, 1, "a", api.ErrMany},
		{"no axles", 1, 0, "a", api.ErrArg},
		{"as many axles as there may be", 1, 24, "a", api.OK},
		{"an axle too many", 1, 25, "a", api.ErrMany},
		{"both as many as there may be", 12, 24, "a", api.OK},
		{"a unit too many, not valid", 13, 0, "", api.ErrMany},
		{"an axle too many, not valid", 12, 25, "", api.ErrMany},
		{"not valid", 12, 24, "", api.ErrArg},
	} {
		u := unit(api.UnitTractor, 1000, 0)
		u.Axles = slices.Repeat([]api.Axle{axle(7, 8, 9)}, x.axles)
		v := of(slices.Repeat([]api.Unit{u}, x.units)...)
		v.Name = x.name
		checkErr(t, x.what, chain.Check(v), x.want)
	}
	checkErr(t, "no vehicle at all", chain.Check(api.Vehicle{}), api.ErrArg)
	v := row(3)
	v.Units[2].Axles = make([]api.Axle, 25)
	checkErr(t, "too many axles of the last unit", chain.Check(v), api.ErrMany)
	v.Units[0].Length = -1
	checkErr(t, "too many axles of the last unit, the first one not valid", chain.Check(v), api.ErrMany)
}

// P3.1
func TestCheckUnits(t *testing.T) {
	for _, x := range []struct {
		what   string
		change func(u *api.Unit, n int64)
		ok     []int64
		bad    []int64
	}{
		{"Kind", func(u *api.Unit, n int64) { u.Kind = int(n) }, []int64{0, 1, 2, 3}, []int64{-1, 4, math.MinInt64, math.MaxInt64}},
		{"Length", func(u *api.Unit, n int64) { u.Length = n }, []int64{100, 101, 131072}, []int64{-100, 0, 99, 131073, math.MinInt64, math.MaxInt64}},
		{"Behind", func(u *api.Unit, n int64) { u.Behind = n }, []int64{-1000, 0, 131072}, []int64{-1001, 131073, math.MinInt64, math.MaxInt64}},
		{"Front", func(u *api.Unit, n int64) { u.Front = n }, []int64{0, 131072}, []int64{-1, 131073, math.MinInt64, math.MaxInt64}},
		{"Rear", func(u *api.Unit, n int64) { u.Rear = n }, []int64{0, 131072}, []int64{-1, 131073, math.MinInt64, math.MaxInt64}},
		{"Width", func(u *api.Unit, n int64) { u.Width = n }, []int64{0, 131072}, []int64{-1, 131073, math.MinInt64, math.MaxInt64}},
		{"Height", func(u *api.Unit, n int64) { u.Height = n }, []int64{0, 131072}, []int64{-1, 131073, math.MinInt64, math.MaxInt64}},
		{"Mass", func(u *api.Unit, n int64) { u.Mass = n }, []int64{1, 1048576}, []int64{-1, 0, 1048577, math.MinInt64, math.MaxInt64}},
		{"Steer", func(u *api.Unit, n int64) { u.Steer = n }, []int64{0, 900}, []int64{-1, 901, 1000, math.MinInt64, math.MaxInt64}},
		{"Most", func(u *api.Unit, n int64) { u.Most = int(n) }, []int64{0, 40}, []int64{-1, 41, math.MinInt64, math.MaxInt64}},
		{"X", func(u *api.Unit, n int64) { u.Rear, u.Axles[0].X = 5, n }, []int64{0, 1000, 1005}, []int64{-1, 1006, math.MinInt64, math.MaxInt64}},
		{"Limit", func(u *api.Unit, n int64) { u.Axles[0].Limit = n }, []int64{1, 1048576}, []int64{-1, 0, 1048577, math.MinInt64, math.MaxInt64}},
		{"Wheels", func(u *api.Unit, n int64) { u.Axles[0].Wheels = int(n) }, []int64{1, 16}, []int64{-1, 0, 17, math.MinInt64, math.MaxInt64}},
	} {
		try := func(n int64, want api.Errno) {
			u := unit(api.UnitTrailer, 1000, 0)
			u.Axles[0].X = 0 // so that the least Length is valid
			x.change(&u, n)
			first := unit(api.UnitTractor, 1000, 0)
			checkErr(t, x.what+" of the last unit", chain.Check(of(first, u)), want)
			checkErr(t, x.what+" of one between", chain.Check(of(first, u, first)), want)
			if u.Kind == api.UnitTrailer {
				u.Kind = api.UnitTractor
				checkErr(t, x.what+" of the first unit", chain.Check(of(u, first)), want)
			}
		}
		for _, n := range x.ok {
			try(n, api.OK)
		}
		for _, n := range x.bad {
			try(n, api.ErrArg)
		}
	}
}

// P3.1: X of the axles does not decrease; each of them is looked at.
func TestCheckAxles(t *testing.T) {
	for _, x := range []struct {
		what  string
		axles []api.Axle
		want  api.Errno
	}{
		{"none", nil, api.ErrArg},
		{"an empty list", []api.Axle{}, api.ErrArg},
		{"one behind another one", []api.Axle{axle(0, 1, 1), axle(1, 1, 1), axle(2000, 1, 1)}, api.OK},
		{"at the same place", []api.Axle{axle(5, 1, 1), axle(5, 1, 1)}, api.OK},
		{"one ahead", []api.Axle{axle(5, 1, 1), axle(4, 1, 1)}, api.ErrArg},
		{"the last one ahead", []api.Axle{axle(5, 1, 1), axle(7, 1, 1), axle(6, 1, 1)}, api.ErrArg},
		{"the last one too far back", []api.Axle{axle(5, 1, 1), axle(2001, 1, 1)}, api.ErrArg},
		{"no limit of the last one", []api.Axle{axle(5, 1, 1), axle(5, 0, 1)}, api.ErrArg},
		{"no wheels of the last one", []api.Axle{axle(5, 1, 1), axle(5, 1, 0)}, api.ErrArg},
	} {
		u := unit(api.UnitTractor, 1500, 0)
		u.Rear, u.Axles = 500, x.axles
		checkErr(t, x.what, chain.Check(of(u)), x.want)
	}
}

// P3.1
func TestCheckVehicle(t *testing.T) {
	for _, x := range []struct {
		what        string
		first, last int
		want        api.Errno
	}{
		{"on the first unit", 0, 0, api.OK},
		{"on the last unit", 2, 2, api.OK},
		{"from the first one to the last one", 0, 2, api.OK},
		{"from back to front", 1, 0, api.ErrArg},
		{"ahead of the first one", -1, 0, api.ErrArg},
		{"behind the last one", 0, 3, api.ErrArg},
		{"both behind", 3, 3, api.ErrArg},
		{"both ahead", -1, -1, api.ErrArg},
		{"the least number", math.MinInt, 0, api.ErrArg},
		{"the greatest number", 0, math.MaxInt, api.ErrArg},
		{"both of them", math.MinInt, math.MaxInt, api.ErrArg},
	} {
		checkErr(t, "the load "+x.what, chain.Check(loaded(row(3), x.first, x.last)), x.want)
	}
	for kind := range 4 {
		want := api.ErrArg
		if kind == api.UnitTractor {
			want = api.OK
		}
		checkErr(t, "the kind of the first unit", chain.Check(of(unit(kind, 1000, 0))), want)
	}
	for s, want := range map[string]api.Errno{
		"a": api.OK, "09az": api.OK, strings.Repeat("z", 20): api.OK,
		"": api.ErrArg, "A": api.ErrArg, "a b": api.ErrArg, "a\n": api.ErrArg, "\u00e4": api.ErrArg, strings.Repeat("z", 21): api.ErrArg,
	} {
		v := row(1)
		v.Name = s
		checkErr(t, "the name "+s, chain.Check(v), want)
	}
	checkErr(t, "the example", chain.Check(example()), api.OK)
}

// P3.2
func TestLength(t *testing.T) {
	first, last := unit(api.UnitTractor, 1000, -300), unit(api.UnitDolly, 200, 70)
	first.Front, first.Rear, last.Front, last.Rear = 1, 20000, 100000, 4
	for _, x := range []struct {
		what string
		v    api.Vehicle
		want int64
	}{
		{"the example", example(), 15000},
		{"one unit: its Behind is not looked at", of(first), 1 + 1000 + 20000},
		{"two units", of(first, last), 1 + 1000 - 300 + 200 + 4},
		{"three units", of(first, last, last), 1 + 1000 - 300 + 200 + 70 + 200 + 4},
		{"steering does not count", of(steered(first, 900), steered(last, 500)), 1 + 1000 - 300 + 200 + 4},
		{"nothing but the last one", of(unit(api.UnitTractor, 1000, -1000), unit(api.UnitDolly, 100, 0)), 100},
	} {
		n, e := chain.Length(x.v)
		check(t, x.what, n, e, x.want, api.OK)
	}
	most := unit(api.UnitTractor, size, size)
	most.Front, most.Rear = size, size
	n, e := chain.Length(of(slices.Repeat([]api.Unit{most}, 12)...))
	check(t, "the longest vehicle", n, e, 25*size, api.OK)
}

// P3.2
func TestMass(t *testing.T) {
	heavy := unit(api.UnitTractor, 1000, 0)
	heavy.Mass = api.MaxLoad
	for _, x := range []struct {
		what string
		v    api.Vehicle
		want int64
	}{
		{"the example", example(), 21000},
		{"the least one", row(1), 1},
		{"three units", row(3), 3},
		{"the greatest one", of(slices.Repeat([]api.Unit{heavy}, 12)...), 12 << 20},
	} {
		m, e := chain.Mass(x.v)
		check(t, x.what, m, e, x.want, api.OK)
	}
}

// P3.2
func TestPulled(t *testing.T) {
	v := of(unit(api.UnitTractor, 1001, 0), steered(unit(api.UnitDolly, 1001, 0), 1), steered(unit(api.UnitDolly, 109, 0), 900), steered(unit(api.UnitDolly, size, 5), 333))
	for i, want := range []int64{1001, 999, 10, 87425} {
		n, e := chain.Pulled(v, i)
		check(t, "Pulled", n, e, want, api.OK)
	}
	n, e := chain.Pulled(example(), 1)
	check(t, "Pulled of the example", n, e, 6000, api.OK)
	for _, i := range []int{-1, 4, math.MinInt, math.MaxInt} {
		n, e := chain.Pulled(v, i)
		check(t, "Pulled of no unit", n, e, 0, api.ErrRange)
	}
}
