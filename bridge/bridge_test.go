package bridge_test

import (
	"math"
	"slices"
	"testing"

	"gooseneck/api"
	"gooseneck/bridge"
)

// changed returns the bridge of the examples, changed.
func changed(change func(b *api.Bridge)) api.Bridge {
	b := example()
	change(&b)
	return b
}

// P6.1
func TestCheck(t *testing.T) {
	six := slices.Repeat([]int64{100}, 7)
	for _, x := range []struct {
		what string
		b    api.Bridge
		want api.Errno
	}{
		{"the example", example(), api.OK},
		{"no spans", api.Bridge{}, api.ErrMany},
		{"no spans, but numbers", changed(func(b *api.Bridge) { b.Spans = nil }), api.ErrMany},
		{"as many spans as can be", beams(six[:6]...), api.OK},
		{"too many spans", beams(six...), api.ErrMany},
		{"too many spans, and all else wrong", api.Bridge{Spans: make([]int64, 7)}, api.ErrMany},
		{"a moment missing", changed(func(b *api.Bridge) { b.Moment = b.Moment[:1] }), api.ErrEqual},
		{"no moments", changed(func(b *api.Bridge) { b.Moment = nil }), api.ErrEqual},
		{"a moment too many", changed(func(b *api.Bridge) { b.Moment = append(b.Moment, 1) }), api.ErrEqual},
		{"a shear missing", changed(func(b *api.Bridge) { b.Shear = b.Shear[:1] }), api.ErrEqual},
		{"a shear too many", changed(func(b *api.Bridge) { b.Shear = append(b.Shear, 1) }), api.ErrEqual},
		{"a shear missing, and a span wrong", changed(func(b *api.Bridge) { b.Shear, b.Spans[0] = nil, 0 }), api.ErrEqual},
		{"a shear missing, and the lanes wrong", changed(func(b *api.Bridge) { b.Shear, b.Lanes = nil, 0 }), api.ErrEqual},
	} {
		checkErr(t, x.what, bridge.Check(x.b), x.want)
	}
}

// P6.1: the least and the greatest of each number is valid, and what is beyond is not.
func TestCheckLimits(t *testing.T) {
	for _, x := range []struct {
		what      string
		low, high int64
		set       func(b *api.Bridge, n int64)
	}{
		{"the first span", 100, 1 << 17, func(b *api.Bridge, n int64) { b.Spans[0] = n }},
		{"the last span", 100, 1 << 17, func(b *api.Bridge, n int64) { b.Spans[1] = n }},
		{"the first moment", 1, 1 << 30, func(b *api.Bridge, n int64) { b.Moment[0] = n }},
		{"the last moment", 1, 1 << 30, func(b *api.Bridge, n int64) { b.Moment[1] = n }},
		{"the first shear", 1, 1 << 30, func(b *api.Bridge, n int64) { b.Shear[0] = n }},
		{"the last shear", 1, 1 << 30, func(b *api.Bridge, n int64) { b.Shear[1] = n }},
		{"the dynamics", 0, 1000, func(b *api.Bridge, n int64) { b.Dynamic = n }},
		{"the lanes", 1, 4, func(b *api.Bridge, n int64) { b.Lanes = int(n) }},
		{"the traffic", 0, 4096, func(b *api.Bridge, n int64) { b.Traffic = n }},
	} {
		for n, want := range map[int64]api.Errno{
			x.low: api.OK, x.high: api.OK, x.low - 1: api.ErrArg, x.high + 1: api.ErrArg, math.MinInt64: api.ErrArg, math.MaxInt64: api.ErrArg,
		} {
			checkErr(t, x.what, bridge.Check(changed(func(b *api.Bridge) { x.set(b, n) })), want)
		}
	}
}

// P6.1
func TestCheckTrain(t *testing.T) {
	for _, x := range []struct {
		what  string
		train []api.Force
		want  api.Errno
	}{
		{"the example", two(), api.OK},
		{"no axles", nil, api.ErrMany},
		{"one axle", forces(0, 1), api.OK},
		{"as many axles as can be", repeated(64, 1, 1), api.OK},
		{"too many axles", repeated(65, 1, 1), api.ErrMany},
		{"too many axles, all wrong", slices.Repeat(forces(-1, -1), 65), api.ErrMany},
		{"not from 0 on", forces(1, 1, 2, 1), api.ErrArg},
		{"from below 0 on", forces(-1, 1, 2, 1), api.ErrArg},
		{"from far below 0 on", forces(math.MinInt64, 1), api.ErrArg},
		{"at the same place", forces(0, 1, 0, 2, 5, 1, 5, 0), api.OK},
		{"backwards", forces(0, 1, 5, 1, 4, 1), api.ErrArg},
		{"as long as can be", forces(0, 1, 1<<18, 1), api.OK},
		{"too long", forces(0, 1, 1<<18+1, 1), api.ErrArg},
		{"any length", forces(0, 1, math.MaxInt64, 1), api.ErrArg},
		{"no loads", forces(0, 0, 1, 0), api.OK},
		{"the greatest loads", forces(0, 1<<20, 1, 1<<20), api.OK},
		{"a load above it", forces(0, 1, 1, 1<<20+1), api.ErrArg},
		{"the first load above it", forces(0, 1<<20+1, 1, 1), api.ErrArg},
		{"any load", forces(0, math.MaxInt64), api.ErrArg},
		{"a load below 0", forces(0, 1, 1, -1), api.ErrArg},
		{"any load below 0", forces(0, math.MinInt64), api.ErrArg},
	} {
		checkErr(t, x.what, bridge.CheckTrain(x.train), x.want)
	}
}
