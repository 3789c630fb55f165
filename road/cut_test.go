package road_test

import (
	"testing"

	"gooseneck/api"
	"gooseneck/road"
)

// P7.6
func TestReach(t *testing.T) {
	m := cityMap(6, way(2, 4, 1), narrow(4, 1, 1, 1000), way(1, 2, 1), way(2, 0, 1), way(5, 2, 1), narrow(0, 5, 1, 2000))
	m.Works = []api.Work{widen(4000, 1, 1), widen(4000, 1, 5), widen(3999, 1, 5)}
	for _, x := range []struct {
		what  string
		from  int
		works []int
		want  []int
	}{
		{"itself", 3, []int{0, 1, 2}, []int{3}},
		{"without works", 2, nil, []int{0, 2, 4}},
		{"with a work", 2, []int{0}, []int{0, 1, 2, 4}},
		{"with another work", 2, []int{1}, []int{0, 2, 4, 5}},
		{"with a work that is not enough", 2, []int{2}, []int{0, 2, 4}},
		{"with all works", 2, []int{0, 1, 2}, []int{0, 1, 2, 4, 5}},
		{"from where it cannot be left without works", 4, nil, []int{4}},
		{"from where it can be left with one", 4, []int{0}, []int{0, 1, 2, 4}},
		{"in a circle", 1, []int{0, 1}, []int{0, 1, 2, 4, 5}},
	} {
		got, e := road.Reach(m, wide(4000), x.works, x.from)
		checkList(t, x.what, got, e, x.want, api.OK)
	}
}

// P7.6: all places, the greatest of them, too.
func TestReachAll(t *testing.T) {
	m := cityMap(64)
	for i := range 64 {
		m.Roads = append(m.Roads, way((i+1)%64, i, 1<<30))
	}
	got, e := road.Reach(m, wide(0), nil, 30)
	checkList(t, "all", got, e, upTo(64), api.OK)
	checkErr(t, "a cut without one", road.CheckCut(m, wide(0), 0, 63, upTo(63)), api.ErrSum)
	m.Roads = m.Roads[:63]
	checkErr(t, "a cut without the last one", road.CheckCut(m, wide(0), 0, 63, upTo(63)), api.OK)
	checkErr(t, "no cut", road.CheckCut(m, wide(0), 63, 0, []int{63}), api.ErrSum)
}

// P7.6: maps and sizes of all kinds, against the words of the chapter.
func TestReachAny(t *testing.T) {
	r := chance(7)
	sizes := map[int]int{}
	for range 2000 {
		m, size := anyMap(r, extent{5, 20, 4, 6}), anySize(r)
		works, begin := anySet(r, len(m.Works)), r.IntN(m.Places)
		got, e := road.Reach(m, size, works, begin)
		checkList(t, "any", got, e, reachOf(m, size, works, begin), api.OK)
		sizes[len(got)]++
	}
	for n := range 5 {
		if sizes[n+1] < 40 {
			t.Errorf("only %d times %d places", sizes[n+1], n+1)
		}
	}
}

// P7.6
func TestCheckCut(t *testing.T) {
	m := withWorks(cityMap(4, way(0, 1, 1), narrow(1, 2, 1, 1000), way(3, 2, 1), way(2, 0, 1)), widen(4000, 1, 1))
	for _, x := range []struct {
		what     string
		size     int64
		from, to int
		places   []int
		want     api.Errno
	}{
		{"what is wide enough", 1000, 0, 2, []int{0, 1}, api.ErrSum},
		{"what can be made usable", 4000, 0, 2, []int{0, 1}, api.ErrSum},
		{"what cannot be made usable", 4001, 0, 2, []int{0, 1}, api.OK},
		{"with a place that does not matter", 4001, 0, 3, []int{0, 1}, api.OK},
		{"a road out of it", 4001, 0, 2, []int{0}, api.ErrSum},
		{"a road into it", 4001, 0, 2, []int{0, 1, 3}, api.ErrSum},
		{"a road within it", 4001, 2, 3, []int{0, 1, 2}, api.OK},
		{"without from", 4001, 0, 2, []int{1}, api.ErrSum},
		{"without from, and nothing goes out of it", 4001, 1, 3, []int{}, api.ErrSum},
		{"nothing", 4001, 0, 1, nil, api.ErrSum},
		{"with to", 4001, 1, 0, []int{0, 1}, api.ErrSum},
		{"to itself", 4001, 1, 1, []int{1}, api.ErrSum},
		{"to itself, without it", 4001, 1, 1, nil, api.ErrSum},
		{"all places", 4001, 0, 3, []int{0, 1, 2, 3}, api.ErrSum},
		{"no such place", 4001, 0, 2, []int{0, 1, 4}, api.ErrRange},
		{"a place below 0", 4001, 0, 2, []int{-1, 0, 1}, api.ErrRange},
		{"a place twice", 4001, 0, 2, []int{0, 1, 1}, api.ErrRange},
		{"places that decrease", 4001, 0, 2, []int{1, 0}, api.ErrRange},
		{"a list without from, and no such place", 4001, 0, 2, []int{2, 64}, api.ErrRange},
	} {
		checkErr(t, x.what, road.CheckCut(m, wide(x.size), x.from, x.to, x.places), x.want)
	}
}

// P7.6: all lists of places of small maps, against the words of the chapter.
func TestCheckCutAny(t *testing.T) {
	r := chance(8)
	kinds := map[api.Errno]int{}
	for range 300 {
		m, size := anyMap(r, small), anySize(r)
		begin, end := r.IntN(m.Places), r.IntN(m.Places)
		for _, places := range setsOf(m.Places) {
			got := road.CheckCut(m, size, begin, end, places)
			checkErr(t, "any", got, checkCutOf(m, size, begin, end, places))
			kinds[got]++
		}
	}
	if kinds[api.OK] < 200 || kinds[api.ErrSum] < 200 {
		t.Errorf("kinds: %v", kinds)
	}
}
