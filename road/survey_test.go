package road_test

import (
	"slices"
	"testing"

	"gooseneck/api"
	"gooseneck/road"
)

// P7.2
func TestCauses(t *testing.T) {
	m := example()
	m.Roads[2].Limit = [6]int64{10, 20, 30, 40, 50, 60}
	m.Works = []api.Work{widen(4000, 4, 1), widen(50, 1, 1, 2), widen(70, 1, 2), {Roads: []int{0, 2}, Measure: 5, Limit: 90, Cost: 1}, widen(9, 1, 2)}
	first := api.Cause{Road: 1, Measure: 1, Limit: 3000, Need: 4000}
	for _, x := range []struct {
		what         string
		size         [6]int64
		works, roads []int
		want         []api.Cause
	}{
		{"the example", wide(4000), nil, []int{0, 1}, []api.Cause{first}},
		{"with a work", wide(4000), []int{0}, []int{0, 1}, nil},
		{"just as wide", wide(3000), nil, []int{0, 1}, nil},
		{"by 1 too wide", wide(3001), nil, []int{1}, []api.Cause{{Road: 1, Measure: 1, Limit: 3000, Need: 3001}}},
		{"by 1 too wide with a work", wide(4001), []int{0}, []int{1}, []api.Cause{{Road: 1, Measure: 1, Limit: 4000, Need: 4001}}},
		{"no roads", all(1 << 30), nil, nil, nil},
		{"a road twice", wide(4000), nil, []int{1, 0, 1}, []api.Cause{first, first}},
		{"roads in their order", wide(4000), nil, []int{2, 1}, []api.Cause{{Road: 2, Measure: 1, Limit: 20, Need: 4000}, first}},
		{"a work that is worse than the road", wide(4000), []int{1}, []int{1}, []api.Cause{first}},
		{"of two works the better one", wide(4000), []int{1, 2}, []int{2}, []api.Cause{{Road: 2, Measure: 1, Limit: 70, Need: 4000}}},
		{"of two works the better one, ahead of the other one", wide(4000), []int{2, 4}, []int{2}, []api.Cause{{Road: 2, Measure: 1, Limit: 70, Need: 4000}}},
		{"all measures", all(100), nil, []int{2}, []api.Cause{
			{Road: 2, Measure: 0, Limit: 10, Need: 100}, {Road: 2, Measure: 1, Limit: 20, Need: 100}, {Road: 2, Measure: 2, Limit: 30, Need: 100},
			{Road: 2, Measure: 3, Limit: 40, Need: 100}, {Road: 2, Measure: 4, Limit: 50, Need: 100}, {Road: 2, Measure: 5, Limit: 60, Need: 100},
		}},
		{"a work of another measure", [6]int64{5: 90}, []int{2, 3}, []int{2}, nil},
		{"a work of another measure does not help", [6]int64{4: 51}, []int{2, 3}, []int{2}, []api.Cause{{Road: 2, Measure: 4, Limit: 50, Need: 51}}},
		{"a work of another road does not help", wide(4000), []int{2, 3}, []int{1}, []api.Cause{first}},
	} {
		got, e := road.Causes(m, x.size, x.works, x.roads)
		checkList(t, x.what, got, e, x.want, api.OK)
	}
}

// P7.2: as many roads as can be.
func TestCausesOfManyRoads(t *testing.T) {
	got, e := road.Causes(example(), all(5001), []int{0, 1}, slices.Repeat([]int{0, 1}, 128))
	if e != api.OK || len(got) != 128*6*2 {
		t.Errorf("%d causes, error %d", len(got), e)
	}
	got, e = road.Causes(example(), all(5001), nil, slices.Repeat([]int{0}, 257))
	checkList(t, "too many roads", got, e, nil, api.ErrMany)
}

// P7.2: maps and sizes of all kinds, against the words of the chapter.
func TestCausesAny(t *testing.T) {
	r := chance(1)
	some := 0
	for range 2000 {
		m, size := anyMap(r, small), anySize(r)
		works, roads := anySet(r, len(m.Works)), anyList(r, len(m.Roads))
		want := causesOf(m, size, works, roads)
		got, e := road.Causes(m, size, works, roads)
		checkList(t, "any", got, e, want, api.OK)
		some += min(1, len(want))
	}
	if some < 500 {
		t.Errorf("only %d have causes", some)
	}
}

// P7.2
func TestIsRoute(t *testing.T) {
	m := cityMap(4, way(0, 1, 1), way(1, 2, 1), way(2, 3, 1), way(1, 0, 1), way(2, 0, 1), way(0, 3, 1), way(3, 1, 1), way(0, 1, 1))
	for _, x := range []struct {
		from, to int
		roads    []int
		want     bool
	}{
		{0, 2, []int{0, 1}, true},
		{0, 2, []int{7, 1}, true},
		{0, 3, []int{5}, true},
		{0, 3, []int{0, 1, 2}, true},
		{0, 2, []int{0}, false},
		{0, 1, []int{0, 1}, false},
		{0, 2, []int{1, 0}, false},
		{0, 2, []int{1}, false},
		{1, 2, []int{0, 1}, false},
		{0, 2, []int{0, 0, 1}, false},
		{0, 1, []int{0, 3, 0}, false},
		{0, 1, []int{0, 3, 7}, false},
		{0, 3, []int{0, 1, 4, 5}, false},
		{0, 1, []int{0, 1, 2, 6}, false},
		{0, 0, []int{0, 3}, false},
		{1, 1, []int{1, 2, 6}, false},
		{0, 0, nil, true},
		{3, 3, nil, true},
		{0, 1, nil, false},
		{1, 0, []int{0}, false},
	} {
		if got, e := road.IsRoute(m, x.from, x.to, x.roads); got != x.want || e != api.OK {
			t.Errorf("%v from %d to %d: %t, %d", x.roads, x.from, x.to, got, e)
		}
	}
}

// P7.2: of all lists of up to three roads just those are routes that one finds by walking.
func TestIsRouteOfAll(t *testing.T) {
	r := chance(2)
	for range 30 {
		m := anyMap(r, small)
		lists := [][]int{nil}
		for i := range m.Roads {
			lists = append(lists, []int{i})
			for j := range m.Roads {
				lists = append(lists, []int{i, j}, []int{i, j, r.IntN(len(m.Roads))})
			}
		}
		for begin := range m.Places {
			for end := range m.Places {
				routes := routesOf(m, begin, end)
				for _, l := range append(lists, routes...) {
					isRoute := slices.ContainsFunc(routes, func(route []int) bool { return slices.Equal(l, route) })
					if got, e := road.IsRoute(m, begin, end, l); got != isRoute || e != api.OK {
						t.Fatalf("%v from %d to %d of %v: %t, %d", l, begin, end, m.Roads, got, e)
					}
				}
			}
		}
	}
}
