package road_test

import (
	"math/rand/v2"
	"slices"
	"testing"

	"gooseneck/api"
	"gooseneck/road"
)

// large are maps at the limits of the chapter.
var large = extent{64, 256, 10, 1 << 20}

// anyExtent returns how large maps are: small ones, or large ones.
func anyExtent(r *rand.Rand) extent {
	if r.IntN(4) == 0 {
		return large
	}
	return extent{6, 14, 6, 8}
}

// isBlocked reports whether a cause blocks one of some roads.
func isBlocked(t *testing.T, m api.Map, size [6]int64, works, roads []int) bool {
	t.Helper()
	return len(must[[]api.Cause](t, "Causes")(road.Causes(m, size, works, roads))) > 0
}

// P7.9: with the works of Works, or of Cheapest, no road is blocked; without any one of them, one is.
func TestEnoughAndNoneTooMany(t *testing.T) {
	r := chance(13)
	many := 0
	for range 4000 {
		m, size := anyMap(r, anyExtent(r)), anySize(r)
		roads := anyList(r, len(m.Roads))
		works, _, e := road.Works(m, size, roads)
		if e != api.OK {
			if !isBlocked(t, m, size, upTo(len(m.Works)), roads) {
				t.Fatalf("no works for %v", roads)
			}
			works, roads = nil, nil
		}
		cheapest, _ := road.Cheapest(m, size, r.IntN(m.Places), r.IntN(m.Places))
		for _, l := range [][2][]int{{works, roads}, {cheapest.Works, cheapest.Roads}} {
			if isBlocked(t, m, size, l[0], l[1]) {
				t.Fatalf("%v is blocked with %v", l[1], l[0])
			}
			for i := range l[0] {
				if fewer := slices.Delete(slices.Clone(l[0]), i, i+1); !isBlocked(t, m, size, fewer, l[1]) {
					t.Fatalf("%v is enough for %v, and %v too", fewer, l[1], l[0])
				}
			}
			many += len(l[0])
		}
	}
	if many < 500 {
		t.Errorf("only %d works", many)
	}
}

// P7.10: no route with works with which it is possible costs less; also for great maps, of which some routes are walked.
func TestNoneIsCheaper(t *testing.T) {
	r := chance(14)
	compared := 0
	for range 1500 {
		m, size := anyMap(r, anyExtent(r)), anySize(r)
		begin := r.IntN(m.Places)
		roads, end := anyWalk(r, m, begin)
		if isRoute, e := road.IsRoute(m, begin, end, roads); !isRoute || e != api.OK {
			t.Fatalf("%v is no route", roads)
		}
		works, cost, e := road.Works(m, size, roads)
		if e != api.OK {
			continue
		}
		compared++
		other := must[api.Route](t, "Cheapest")(road.Cheapest(m, size, begin, end))
		if mine := routeOf(m, works, roads); mine.Cost < other.Cost || cost != priceOf(m, works) {
			t.Fatalf("%v is cheaper than %v", mine, other)
		}
		if isRoute, _ := road.IsRoute(m, begin, end, other.Roads); !isRoute || !isSameRoute(other, routeOf(m, other.Works, other.Roads)) {
			t.Fatalf("%v is no route with its works", other)
		}
	}
	if compared < 500 {
		t.Errorf("only %d compared", compared)
	}
}

// anyWalk returns a route from a place, and where it ends.
func anyWalk(r *rand.Rand, m api.Map, place int) ([]int, int) {
	var roads []int
	visited := []int{place}
	for range r.IntN(6) {
		var next []int
		for i, one := range m.Roads {
			if one.From == place && !slices.Contains(visited, one.To) {
				next = append(next, i)
			}
		}
		if len(next) == 0 {
			break
		}
		roads = append(roads, next[r.IntN(len(next))])
		place = m.Roads[roads[len(roads)-1]].To
		visited = append(visited, place)
	}
	return roads, place
}

// P7.11: what a right proof proves is at most the cost of each route that is possible with works; and the even proof is
// right.
func TestNotBelow(t *testing.T) {
	r := chance(15)
	some, less := 0, 0
	for range 3000 {
		m, size := anyMap(r, anyExtent(r)), anySize(r)
		begin, end := r.IntN(m.Places), r.IntN(m.Places)
		cheapest, e := road.Cheapest(m, size, begin, end)
		even, e2 := road.Bound(m, size, begin, end)
		checkErr(t, "Bound", e2, e)
		if e != api.OK {
			continue
		}
		some++
		n, e := road.CheckBound(m, size, begin, end, even)
		if e != api.OK || n > cheapest.Cost || n < 0 {
			t.Fatalf("the even proof proves %d, %d; the cost is %d", n, e, cheapest.Cost)
		}
		if n < cheapest.Cost {
			less++
		}
	}
	if some < 1000 || less < 50 {
		t.Errorf("%d are possible, and for %d the proof is not sharp", some, less)
	}
	for range 5000 {
		m, size := anyMap(r, small), anySize(r)
		begin, end := r.IntN(m.Places), r.IntN(m.Places)
		n, e := road.CheckBound(m, size, begin, end, anyProof(r, m, size, begin))
		cheapest, e2 := road.Cheapest(m, size, begin, end)
		if e == api.OK && e2 == api.OK && n > cheapest.Cost {
			t.Fatalf("a proof proves %d; the cost is %d", n, cheapest.Cost)
		}
	}
}

// P7.11: the even proof proves just the cost, if each work helps at most one load, and for each load at most one work
// helps.
func TestSharpProof(t *testing.T) {
	r := chance(16)
	some := 0
	for range 2500 {
		m, size := anyMap(r, anyExtent(r)), anySize(r)
		m.Works = nil
		for i := range min(len(m.Roads), 10) {
			w := anyWork(r, 1, 8)
			w.Roads = []int{i}
			m.Works = append(m.Works, w)
		}
		begin, end := r.IntN(m.Places), r.IntN(m.Places)
		cheapest, e := road.Cheapest(m, size, begin, end)
		if e != api.OK {
			continue
		}
		some += min(1, len(cheapest.Works))
		n, e := road.CheckBound(m, size, begin, end, must[api.Bound](t, "Bound")(road.Bound(m, size, begin, end)))
		check(t, "the sharp proof", n, e, cheapest.Cost, api.OK)
	}
	if some < 100 {
		t.Errorf("only %d have works", some)
	}
}

// P7.12: what CheckCut accepts proves that there is no route; and if there is none, it accepts what Reach returns with all
// works.
func TestCut(t *testing.T) {
	r := chance(17)
	accepted, none := 0, 0
	for range 1500 {
		m, size := anyMap(r, anyExtent(r)), anySize(r)
		begin, end := r.IntN(m.Places), r.IntN(m.Places)
		_, noRoute := road.Cheapest(m, size, begin, end)
		reached := must[[]int](t, "Reach")(road.Reach(m, size, upTo(len(m.Works)), begin))
		if e := road.CheckCut(m, size, begin, end, reached); (e == api.OK) != (noRoute == api.ErrPlan) {
			t.Fatalf("%v from %d to %d: error %d, and of Cheapest %d", reached, begin, end, e, noRoute)
		}
		if noRoute == api.ErrPlan {
			none++
		}
		if road.CheckCut(m, size, begin, end, anySet(r, m.Places)) != api.OK {
			continue
		}
		accepted++
		checkErr(t, "a cut", noRoute, api.ErrPlan)
		_, _, e := road.Soonest(m, size, anySet(r, len(m.Works)), begin, end, 0)
		checkErr(t, "a cut", e, api.ErrPlan)
	}
	if accepted < 20 || none < 100 {
		t.Errorf("%d are accepted, and %d have no route", accepted, none)
	}
}

// P7.13: no route from the place at this time arrives anywhere before a label that CheckLabels accepts; it accepts what
// Labels returns, and the route of Soonest arrives just then.
func TestSoonestOfAll(t *testing.T) {
	r := chance(18)
	for range 1500 {
		m, size := anyMap(r, anyExtent(r)), anySize(r)
		works, begin, start := anySet(r, len(m.Works)), r.IntN(m.Places), from(r, 0, 1<<from(r, 0, 40))
		labels := must[[]int64](t, "Labels")(road.Labels(m, size, works, begin, start))
		checkErr(t, "CheckLabels", road.CheckLabels(m, size, works, begin, start, labels), api.OK)
		for end, label := range labels {
			roads, at, e := road.Soonest(m, size, works, begin, end, start)
			if (e == api.OK) != (label != -1) {
				t.Fatalf("Soonest: error %d, and the label is %d", e, label)
			}
			if e != api.OK {
				continue
			}
			isRoute, _ := road.IsRoute(m, begin, end, roads)
			arrives, e := road.Arrive(m, roads, start)
			if !isRoute || e != api.OK || arrives != at || at != label || isBlocked(t, m, size, works, roads) {
				t.Fatalf("%v arrives at %d, and not at %d", roads, arrives, label)
			}
		}
	}
}

// P7.13: any labels that are accepted are not later than any route arrives.
func TestAcceptedLabels(t *testing.T) {
	r := chance(19)
	accepted := 0
	for range 5000 {
		m, size := anyMap(r, anyExtent(r)), anySize(r)
		works, begin, start := anySet(r, len(m.Works)), r.IntN(m.Places), from(r, 0, 3000)
		labels := must[[]int64](t, "Labels")(road.Labels(m, size, works, begin, start))
		for range 1 + r.IntN(3) {
			i := r.IntN(len(labels))
			labels[i] = max(-1, labels[i]+from(r, -500, 100))
		}
		if road.CheckLabels(m, size, works, begin, start, labels) != api.OK {
			continue
		}
		accepted++
		roads, end := anyWalk(r, m, begin)
		if isBlocked(t, m, size, works, roads) {
			continue
		}
		if at := must[int64](t, "Arrive")(road.Arrive(m, roads, start)); labels[end] == -1 || at < labels[end] {
			t.Fatalf("%v arrives at %d, before %v", roads, at, labels)
		}
	}
	if accepted < 500 {
		t.Errorf("only %d are accepted", accepted)
	}
}

// P7.13: who begins later does not arrive sooner.
func TestLaterIsNotSooner(t *testing.T) {
	r := chance(20)
	for range 1500 {
		m, size := anyMap(r, anyExtent(r)), anySize(r)
		works, begin := anySet(r, len(m.Works)), r.IntN(m.Places)
		start := from(r, 0, 3000)
		later := start + from(r, 0, 1500)
		a := must[[]int64](t, "Labels")(road.Labels(m, size, works, begin, start))
		b := must[[]int64](t, "Labels")(road.Labels(m, size, works, begin, later))
		for end := range a {
			if a[end] > b[end] {
				t.Fatalf("from %d on it is %d, and from %d on %d", start, a[end], later, b[end])
			}
		}
		roads, _ := anyWalk(r, m, begin)
		if a, b := arriveOf(m, roads, start), arriveOf(m, roads, later); a > b {
			t.Fatalf("from %d on it is %d, and from %d on %d", start, a, later, b)
		}
	}
}

// P7.14: for a lesser size, the cheapest route costs no more; with another work neither.
func TestMoreIsNotDearer(t *testing.T) {
	r := chance(21)
	cheaper := map[string]int{}
	for range 3000 {
		m, size := anyMap(r, anyExtent(r)), anySize(r)
		m.Works = m.Works[:min(9, len(m.Works))]
		begin, end := r.IntN(m.Places), r.IntN(m.Places)
		before, e := road.Cheapest(m, size, begin, end)
		lesser := size
		for range 1 + r.IntN(6) {
			measure := r.IntN(6)
			lesser[measure] = from(r, 0, lesser[measure])
		}
		more := clone(m)
		more.Works = slices.Insert(more.Works, r.IntN(len(more.Works)+1), anyWork(r, len(m.Roads), 8))
		for what, after := range map[string]func() (api.Route, api.Errno){
			"a lesser size": func() (api.Route, api.Errno) { return road.Cheapest(m, lesser, begin, end) },
			"another work":  func() (api.Route, api.Errno) { return road.Cheapest(more, size, begin, end) },
		} {
			got, e2 := after()
			if e == api.OK && (e2 != api.OK || got.Cost > before.Cost) {
				t.Fatalf("the cost is %d, and with %s %d, %d", before.Cost, what, got.Cost, e2)
			}
			if e2 == api.OK && (e != api.OK || got.Cost < before.Cost) {
				cheaper[what]++
			}
		}
	}
	if cheaper["a lesser size"] < 50 || cheaper["another work"] < 50 {
		t.Errorf("cheaper: %v", cheaper)
	}
}
