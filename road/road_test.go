package road_test

import (
	"math"
	"slices"
	"testing"

	"gooseneck/api"
	"gooseneck/road"
)

// repeatedRoads returns the same road n times.
func repeatedRoads(n int) []api.Road { return slices.Repeat([]api.Road{way(0, 1, 1)}, n) }

// P7.1: what is too much comes ahead of all that is not valid.
func TestCheck(t *testing.T) {
	broken := api.Road{From: -1, Cost: -1}
	for _, x := range []struct {
		what string
		m    api.Map
		want api.Errno
	}{
		{"the example", example(), api.OK},
		{"a place alone", cityMap(1), api.OK},
		{"no places", api.Map{}, api.ErrArg},
		{"64 places", cityMap(64, way(63, 0, 1)), api.OK},
		{"65 places", cityMap(65), api.ErrArg},
		{"fewer than no places", cityMap(math.MinInt), api.ErrArg},
		{"256 roads", cityMap(2, repeatedRoads(256)...), api.OK},
		{"257 roads", cityMap(2, repeatedRoads(257)...), api.ErrMany},
		{"257 roads, and no places", cityMap(0, repeatedRoads(257)...), api.ErrMany},
		{"257 roads that are not valid", cityMap(2, slices.Repeat([]api.Road{broken}, 257)...), api.ErrMany},
		{"10 works", withWorks(example(), slices.Repeat([]api.Work{widen(1, 1, 0)}, 10)...), api.OK},
		{"11 works", withWorks(example(), slices.Repeat([]api.Work{widen(1, 1, 0)}, 11)...), api.ErrMany},
		{"11 works of no roads", withWorks(cityMap(0, broken), make([]api.Work, 11)...), api.ErrMany},
		{"a work of 16 roads", withWorks(cityMap(2, repeatedRoads(16)...), widen(1, 1, upTo(16)...)), api.OK},
		{"a work of 17 roads", withWorks(cityMap(2, repeatedRoads(17)...), widen(1, 1, upTo(17)...)), api.ErrMany},
		{"a work of 17 roads that there are not", withWorks(example(), widen(1, 1, upTo(17)...)), api.ErrMany},
		{"a work of 17 roads behind one that is not valid", withWorks(cityMap(-1, broken), api.Work{}, widen(1, 1, upTo(17)...)), api.ErrMany},
		{"a work of no roads", changed(func(m *api.Map) { m.Works[1].Roads = nil }), api.ErrArg},
		{"a work of the first and the last road", changed(func(m *api.Map) { m.Works[1].Roads = []int{0, 2} }), api.OK},
		{"a work of a road twice", changed(func(m *api.Map) { m.Works[1].Roads = []int{1, 1} }), api.ErrArg},
		{"a work of roads that decrease", changed(func(m *api.Map) { m.Works[1].Roads = []int{1, 0} }), api.ErrArg},
		{"a work of a road that there is not", changed(func(m *api.Map) { m.Works[1].Roads = []int{3} }), api.ErrArg},
		{"a work of a road below 0", changed(func(m *api.Map) { m.Works[1].Roads = []int{-1, 0} }), api.ErrArg},
		{"a work without roads on the map", withWorks(cityMap(2), widen(1, 1, 0)), api.ErrArg},
		{"a road from a place to itself", cityMap(2, way(1, 1, 1)), api.ErrArg},
		{"two roads that are the same", cityMap(2, way(1, 0, 1), way(1, 0, 1)), api.OK},
		{"a last road that is not valid", cityMap(2, way(0, 1, 1), broken), api.ErrArg},
	} {
		checkErr(t, x.what, road.Check(x.m), x.want)
	}
}

// P7.1: the least and the greatest of each number is valid, and what is beyond is not.
func TestCheckLimits(t *testing.T) {
	for _, x := range []struct {
		what      string
		low, high int64
		set       func(m *api.Map, n int64)
	}{
		{"where a road begins", 0, 2, func(m *api.Map, n int64) { m.Roads[1].From, m.Roads[1].To = int(n), 1 }},
		{"where a road ends", 0, 2, func(m *api.Map, n int64) { m.Roads[1].From, m.Roads[1].To = 1, int(n) }},
		{"a cost", 1, 1 << 30, func(m *api.Map, n int64) { m.Roads[2].Cost = n }},
		{"the minutes", 1, 120, func(m *api.Map, n int64) { m.Roads[2].Minutes = n }},
		{"the minutes of a day", 1, 1440, func(m *api.Map, n int64) { m.Roads[2].Minutes, m.Roads[2].Open, m.Roads[2].Close = n, 0, 1440 }},
		{"from when it is open", 0, 540, func(m *api.Map, n int64) { m.Roads[2].Open = n }},
		{"from when it is open at the end of the day", 0, 1439, func(m *api.Map, n int64) { m.Roads[2].Open, m.Roads[2].Close, m.Roads[2].Minutes = n, 1440, 1 }},
		{"when it closes", 540, 1440, func(m *api.Map, n int64) { m.Roads[2].Close = n }},
		{"when it closes at the begin of the day", 1, 1440, func(m *api.Map, n int64) { m.Roads[2].Open, m.Roads[2].Close, m.Roads[2].Minutes = 0, n, 1 }},
		{"the first limit", 0, 1 << 30, func(m *api.Map, n int64) { m.Roads[2].Limit[0] = n }},
		{"the last limit", 0, 1 << 30, func(m *api.Map, n int64) { m.Roads[2].Limit[5] = n }},
		{"the measure of a work", 0, 5, func(m *api.Map, n int64) { m.Works[1].Measure = int(n) }},
		{"the limit of a work", 0, 1 << 30, func(m *api.Map, n int64) { m.Works[1].Limit = n }},
		{"the cost of a work", 1, 1 << 30, func(m *api.Map, n int64) { m.Works[1].Cost = n }},
		{"the road of a work", 0, 2, func(m *api.Map, n int64) { m.Works[1].Roads[0] = int(n) }},
	} {
		for _, n := range append([]int64{x.low - 1, x.low, x.high, x.high + 1}, extremes...) {
			want := api.ErrArg
			isItself := x.what[:5] == "where" && n == 1
			if x.low <= n && n <= x.high && !isItself {
				want = api.OK
			}
			if got := road.Check(changed(func(m *api.Map) { x.set(m, n) })); got != want {
				t.Errorf("%s is %d: error %d, want %d", x.what, n, got, want)
			}
		}
	}
}

// P7.1: a road has to be open for at least its minutes, also if its hours are the ends of the type.
func TestCheckHours(t *testing.T) {
	for _, x := range []struct {
		minutes, open, shut int64
		want                api.Errno
	}{
		{60, 480, 540, api.OK},
		{61, 480, 540, api.ErrArg},
		{60, 480, 539, api.ErrArg},
		{1, 480, 480, api.ErrArg},
		{1, 480, 479, api.ErrArg},
		{1, 480, 481, api.OK},
		{1440, 0, 1440, api.OK},
		{1441, 0, 1441, api.ErrArg},
		{1440, 1, 1441, api.ErrArg},
		{60, -60, 0, api.ErrArg},
		{0, 480, 480, api.ErrArg},
		{0, 480, 540, api.ErrArg},
		{-60, 540, 480, api.ErrArg},
		{60, math.MaxInt64, math.MinInt64, api.ErrArg},
		{60, math.MinInt64, math.MaxInt64, api.ErrArg},
		{math.MinInt64, 540, 480, api.ErrArg},
		{math.MaxInt64, 0, 1440, api.ErrArg},
	} {
		m := changed(func(m *api.Map) { m.Roads[1].Minutes, m.Roads[1].Open, m.Roads[1].Close = x.minutes, x.open, x.shut })
		if got := road.Check(m); got != x.want {
			t.Errorf("%d minutes from %d to %d: error %d, want %d", x.minutes, x.open, x.shut, got, x.want)
		}
	}
}

// P7.1: each measure is from 0 to 2^30.
func TestCheckSize(t *testing.T) {
	checkErr(t, "nothing", road.CheckSize(all(0)), api.OK)
	checkErr(t, "the greatest", road.CheckSize(all(1<<30)), api.OK)
	for measure := range 6 {
		for _, n := range extremes {
			want := api.ErrArg
			if 0 <= n && n <= 1<<30 {
				want = api.OK
			}
			size := all(5)
			size[measure] = n
			if got := road.CheckSize(size); got != want {
				t.Errorf("the measure %d is %d: error %d, want %d", measure, n, got, want)
			}
		}
	}
}
