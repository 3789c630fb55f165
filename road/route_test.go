package road_test

import (
	"slices"
	"testing"

	"gooseneck/api"
	"gooseneck/road"
)

// P7.3
func TestWorks(t *testing.T) {
	// The roads 0 to 3 are too narrow, and the road 4 is wide enough.
	m := cityMap(3, narrow(0, 1, 1, 1000), narrow(0, 1, 1, 1000), narrow(0, 1, 1, 1000), narrow(0, 1, 1, 1000), way(1, 2, 1))
	m.Roads[3].Limit[api.MeasureHeight] = 1000
	for _, x := range []struct {
		what  string
		works []api.Work
		roads []int
		want  []int
		cost  int64
		e     api.Errno
	}{
		{"no roads", []api.Work{widen(4000, 1, 0)}, nil, nil, 0, api.OK},
		{"a road that is usable", []api.Work{widen(4000, 1, 0, 4)}, []int{4, 4}, nil, 0, api.OK},
		{"no works", nil, []int{4, 0}, nil, 0, api.ErrPlan},
		{"the only one", []api.Work{widen(4000, 7, 1), widen(4000, 5, 0)}, []int{4, 0}, []int{1}, 5, api.OK},
		{"the only one twice", []api.Work{widen(4000, 7, 1), widen(4000, 5, 0)}, []int{0, 4, 0}, []int{1}, 5, api.OK},
		{"one that is not enough", []api.Work{widen(3999, 5, 0)}, []int{0}, nil, 0, api.ErrPlan},
		{"the last road is blocked", []api.Work{widen(4000, 5, 0)}, []int{0, 1}, nil, 0, api.ErrPlan},
		{"the first road is blocked", []api.Work{widen(4000, 5, 0)}, []int{1, 0}, nil, 0, api.ErrPlan},
		{"the cheaper one", []api.Work{widen(4000, 5, 0), widen(4000, 3, 0), widen(9000, 4, 0)}, []int{0}, []int{1}, 3, api.OK},
		{"the first one of two", []api.Work{widen(4000, 5, 0), widen(5000, 5, 0)}, []int{0}, []int{0}, 5, api.OK},
		{"one for both", []api.Work{widen(4000, 5, 0), widen(4000, 5, 1), widen(4000, 9, 0, 1)}, []int{1, 0}, []int{2}, 9, api.OK},
		{"both for both", []api.Work{widen(4000, 5, 0), widen(4000, 5, 1), widen(4000, 11, 0, 1)}, []int{1, 0}, []int{0, 1}, 10, api.OK},
		{"two are ahead of the second of them", []api.Work{widen(4000, 5, 0), widen(4000, 5, 1), widen(4000, 10, 0, 1)}, []int{1, 0}, []int{0, 1}, 10, api.OK},
		{"the first one is ahead of two", []api.Work{widen(4000, 10, 0, 1), widen(4000, 5, 0), widen(4000, 5, 1)}, []int{1, 0}, []int{0}, 10, api.OK},
		{"two with a gap", []api.Work{widen(4000, 5, 0), widen(4000, 10, 0, 1), widen(4000, 5, 1)}, []int{1, 0}, []int{0, 2}, 10, api.OK},
		{"one of another measure", []api.Work{{Roads: []int{0}, Measure: 2, Limit: 4000, Cost: 1}}, []int{0}, nil, 0, api.ErrPlan},
		{"two measures", []api.Work{widen(4000, 5, 3), widen(4000, 6, 3), {Roads: []int{3}, Limit: 1500, Cost: 2}}, []int{3}, []int{0, 2}, 7, api.OK},
		{"two measures, and one of them not", []api.Work{widen(4000, 5, 3), {Roads: []int{3}, Limit: 1499, Cost: 2}}, []int{3}, nil, 0, api.ErrPlan},
		{"the dearest ones", slices.Repeat([]api.Work{widen(4000, 1<<30, 0)}, 9), []int{0}, []int{0}, 1 << 30, api.OK},
	} {
		works, cost, e := road.Works(withWorks(m, x.works...), [6]int64{1500, 4000}, x.roads)
		checkNumbered(t, x.what, works, cost, e, x.want, x.cost, x.e)
	}
	works, cost, e := road.Works(example(), wide(4000), []int{0, 1})
	checkNumbered(t, "the example", works, cost, e, []int{0}, 4, api.OK)
	works, cost, e = road.Works(example(), wide(4000), []int{2})
	checkNumbered(t, "the example, the other road", works, cost, e, []int{1}, 12, api.OK)
}

// P7.3: all 10 works together are the greatest cost.
func TestWorksAllOfThem(t *testing.T) {
	m := cityMap(2)
	for i := range 10 {
		m.Roads = append(m.Roads, narrow(0, 1, 1, 0))
		m.Works = append(m.Works, widen(1<<30, 1<<30, i))
	}
	works, cost, e := road.Works(m, wide(1<<30), upTo(10))
	checkNumbered(t, "all", works, cost, e, upTo(10), 10<<30, api.OK)
}

// P7.3: maps and sizes of all kinds, against the words of the chapter.
func TestWorksAny(t *testing.T) {
	r := chance(3)
	kinds := map[int]int{}
	for range 2000 {
		m, size := anyMap(r, extent{4, 8, 5, 4}), anySize(r)
		roads := anyList(r, len(m.Roads))
		want, wantCost, wantErr := worksOf(m, size, roads)
		works, cost, e := road.Works(m, size, roads)
		checkNumbered(t, "any", works, cost, e, want, wantCost, wantErr)
		kinds[len(want)+10*int(wantErr)]++
	}
	for _, kind := range []int{0, 1, 2, 10 * int(api.ErrPlan)} {
		if kinds[kind] < 30 {
			t.Errorf("only %d times %d", kinds[kind], kind)
		}
	}
}

// P7.4
func TestCheapest(t *testing.T) {
	twoWays := cityMap(4, way(0, 1, 5), way(0, 2, 5), way(1, 3, 5), way(2, 3, 5), way(0, 3, 11))
	exchanged := withWorks(example(), widen(4000, 14, 2), widen(4000, 9, 1))
	for _, x := range []struct {
		what     string
		m        api.Map
		from, to int
		want     api.Route
		e        api.Errno
	}{
		{"the example", example(), 0, 2, api.Route{Roads: []int{0, 1}, Works: []int{0}, Cost: 24, Minutes: 120}, api.OK},
		{"the other way", example(), 2, 0, api.Route{}, api.ErrPlan},
		{"to itself", example(), 1, 1, api.Route{}, api.OK},
		{"without works", example(), 0, 1, api.Route{Roads: []int{0}, Cost: 10, Minutes: 60}, api.OK},
		{"the other one is cheaper", changed(func(m *api.Map) { m.Works[1].Cost = 8 }), 0, 2, api.Route{Roads: []int{2}, Works: []int{1}, Cost: 23, Minutes: 60}, api.OK},
		{"the works decide", changed(func(m *api.Map) { m.Works[1].Cost = 9 }), 0, 2, api.Route{Roads: []int{0, 1}, Works: []int{0}, Cost: 24, Minutes: 120}, api.OK},
		{"the works decide, and not the roads", exchanged, 0, 2, api.Route{Roads: []int{2}, Works: []int{0}, Cost: 29, Minutes: 60}, api.OK},
		{"no works decide, and not the roads", cityMapWith(widen(4000, 1, 0), narrow(0, 1, 4, 1), way(0, 1, 5)), 0, 1, api.Route{Roads: []int{1}, Cost: 5, Minutes: 60}, api.OK},
		{"a work is cheaper than a way", cityMapWith(widen(4000, 1, 0), narrow(0, 1, 3, 1), way(0, 1, 5)), 0, 1, api.Route{Roads: []int{0}, Works: []int{0}, Cost: 4, Minutes: 60}, api.OK},
		{"of two roads the first one", cityMap(2, way(1, 0, 1), way(0, 1, 3), way(0, 1, 3)), 0, 1, api.Route{Roads: []int{1}, Cost: 3, Minutes: 60}, api.OK},
		{"of two ways the first one", twoWays, 0, 3, api.Route{Roads: []int{0, 2}, Cost: 10, Minutes: 120}, api.OK},
		{"a longer way that begins with a first road", cityMap(3, way(0, 1, 2), way(0, 2, 4), way(1, 2, 2)), 0, 2, api.Route{Roads: []int{0, 2}, Cost: 4, Minutes: 120}, api.OK},
		{"a shorter way that begins with a first road", cityMap(3, way(0, 2, 4), way(0, 1, 2), way(1, 2, 2)), 0, 2, api.Route{Roads: []int{0}, Cost: 4, Minutes: 60}, api.OK},
		{"one work for two roads", cityMapWith(widen(4000, 3, 0, 1), narrow(0, 1, 1, 1), narrow(1, 2, 1, 1), way(0, 2, 6)), 0, 2, api.Route{Roads: []int{0, 1}, Works: []int{0}, Cost: 5, Minutes: 120}, api.OK},
		{"blocked with all works", cityMapWith(widen(3999, 3, 0), narrow(0, 1, 1, 1)), 0, 1, api.Route{}, api.ErrPlan},
		{"no roads", cityMap(2), 0, 1, api.Route{}, api.ErrPlan},
		{"a place alone", cityMap(1), 0, 0, api.Route{}, api.OK},
	} {
		got, e := road.Cheapest(x.m, wide(4000), x.from, x.to)
		checkRoute(t, x.what, got, e, x.want, x.e)
	}
}

// cityMapWith returns a map of 3 places with a work.
func cityMapWith(w api.Work, roads ...api.Road) api.Map { return withWorks(cityMap(3, roads...), w) }

// P7.4: the longest route, with the greatest costs and minutes.
func TestCheapestGreatest(t *testing.T) {
	m := cityMap(64)
	for i := range 63 {
		r := narrow(i, i+1, 1<<30, 0)
		r.Minutes = 1440
		m.Roads = append(m.Roads, r)
	}
	for i := range 4 {
		l := upTo(63)[16*i:]
		m.Works = append(m.Works, widen(1<<30, 1<<30, l[:min(16, len(l))]...))
	}
	got, e := road.Cheapest(m, wide(1<<30), 0, 63)
	checkRoute(t, "the greatest", got, e, api.Route{Roads: upTo(63), Works: upTo(4), Cost: 67 << 30, Minutes: 63 * 1440}, api.OK)
}

// P7.4: maps and sizes of all kinds, against the words of the chapter.
func TestCheapestAny(t *testing.T) {
	r := chance(4)
	equal, kinds := 0, map[int]int{}
	for range 6000 {
		m, size := anyMap(r, extent{4, 9, 5, 4}), anySize(r)
		begin, end := r.IntN(m.Places), r.IntN(m.Places)
		want, wantErr := cheapestOf(m, size, begin, end)
		got, e := road.Cheapest(m, size, begin, end)
		checkRoute(t, "any", got, e, want, wantErr)
		kinds[len(want.Works)+10*int(wantErr)]++
		for _, other := range possibleOf(m, size, begin, end) {
			if other.Cost == want.Cost && !isSameRoute(other, want) {
				equal++
				break
			}
		}
	}
	for _, kind := range []int{0, 1, 2, 10 * int(api.ErrPlan)} {
		if kinds[kind] < 20 {
			t.Errorf("only %d times %d", kinds[kind], kind)
		}
	}
	if equal < 100 {
		t.Errorf("only %d times another route costs the same", equal)
	}
}
