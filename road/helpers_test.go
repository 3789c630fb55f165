package road_test

import (
	"math"
	"math/rand/v2"
	"slices"
	"testing"

	"gooseneck/api"
)

// extremes are numbers at the limits of the chapter, one beyond them, and at the ends of the type.
var extremes = []int64{
	math.MinInt64, math.MinInt64 + 1, -1<<45 - 1, -1 << 45, -1 << 32, -1000, -2, -1, 0, 1, 2, 3, 4, 5, 6, 7, 9, 10, 11, 15, 16,
	17, 63, 64, 65, 255, 256, 257, 1439, 1440, 1441, 1 << 30, 1<<30 + 1, 1 << 32, 1 << 40, 1<<40 + 1, 1 << 41, 1<<41 + 1,
	1 << 45, 1<<45 + 1, math.MaxInt64 - 1, math.MaxInt64,
}

// chance returns numbers that look like chance, and are the same in each run.
func chance(seed uint64) *rand.Rand { return rand.New(rand.NewPCG(seed, 7)) }

// from returns a number from low to high.
func from(r *rand.Rand, low, high int64) int64 { return low + r.Int64N(high-low+1) }

// all returns the same number for each measure.
func all(n int64) [6]int64 { return [6]int64{n, n, n, n, n, n} }

// wide returns the size of which just the width is not 0.
func wide(n int64) [6]int64 { return [6]int64{0, n} }

// example is the map of the chapter's examples.
func example() api.Map {
	m := cityMap(3, way(0, 1, 10), way(1, 2, 10), way(0, 2, 15))
	for i := range m.Roads {
		m.Roads[i].Open, m.Roads[i].Close = 480, 600
	}
	m.Roads[1].Limit[api.MeasureWidth], m.Roads[2].Limit[api.MeasureWidth] = 3000, 2000
	m.Works = []api.Work{widen(4000, 4, 1), widen(4000, 12, 2)}
	return m
}

// way returns a road that takes an hour, is open all day, and wide enough for all.
func way(from, to int, cost int64) api.Road {
	return api.Road{From: from, To: to, Cost: cost, Minutes: 60, Close: api.Day, Limit: all(5000)}
}

// hourly returns a road that takes some minutes, and is entered from a minute of the day to another one.
func hourly(from, to int, minutes, first, last int64) api.Road {
	return api.Road{From: from, To: to, Cost: 1, Minutes: minutes, Open: first, Close: last + minutes, Limit: all(5000)}
}

// narrow returns a road as way does, with another width.
func narrow(from, to int, cost, width int64) api.Road {
	r := way(from, to, cost)
	r.Limit[api.MeasureWidth] = width
	return r
}

// widen returns a work that makes some roads wider.
func widen(limit, cost int64, roads ...int) api.Work {
	return api.Work{Roads: roads, Measure: api.MeasureWidth, Limit: limit, Cost: cost}
}

func cityMap(places int, roads ...api.Road) api.Map { return api.Map{Places: places, Roads: roads} }

// changed returns the map of the examples, changed.
func changed(change func(m *api.Map)) api.Map {
	m := example()
	change(&m)
	return m
}

func withWorks(m api.Map, works ...api.Work) api.Map {
	m.Works = works
	return m
}

func clone(m api.Map) api.Map {
	m.Roads, m.Works = slices.Clone(m.Roads), slices.Clone(m.Works)
	for i := range m.Works {
		m.Works[i].Roads = slices.Clone(m.Works[i].Roads)
	}
	return m
}

// extent is how large maps are that are made by chance: up to so many things, with costs of up to cost.
type extent struct{ places, roads, works, cost int64 }

// small are maps of which all routes can be looked at.
var small = extent{5, 10, 4, 6}

// most is the greatest limit of maps that are made by chance. There are few, so that many are equal.
const most = 4

// anyMap returns a valid map.
func anyMap(r *rand.Rand, x extent) api.Map {
	m := api.Map{Places: int(from(r, 2, x.places))}
	for range from(r, 1, x.roads) {
		m.Roads = append(m.Roads, anyRoad(r, m.Places, x.cost))
	}
	for range from(r, 0, x.works) {
		m.Works = append(m.Works, anyWork(r, len(m.Roads), x.cost))
	}
	return m
}

func anyRoad(r *rand.Rand, places int, cost int64) api.Road {
	begin := r.IntN(places)
	end := (begin + 1 + r.IntN(places-1)) % places
	road := api.Road{From: begin, To: end, Cost: from(r, 1, cost), Minutes: 30 * from(r, 1, 8), Limit: all(most)}
	road.Open = 240 * from(r, 0, 4)
	road.Close = min(api.Day, road.Open+road.Minutes+60*from(r, 0, 8))
	if r.IntN(3) == 0 {
		road.Minutes, road.Open, road.Close = from(r, 1, 300), 0, api.Day
	}
	for range r.IntN(4) {
		road.Limit[r.IntN(2)*4+1] = from(r, 0, most)
	}
	return road
}

func anyWork(r *rand.Rand, roads int, cost int64) api.Work {
	w := api.Work{Measure: r.IntN(2)*4 + 1, Limit: min(most, from(r, 2, most+3)), Cost: from(r, 1, max(1, cost/2))}
	w.Roads = r.Perm(roads)[:1+r.IntN(min(roads, 4))]
	slices.Sort(w.Roads)
	return w
}

// anySize returns a size that may be too great for some limits.
func anySize(r *rand.Rand) [6]int64 {
	size := all(0)
	for measure := range size {
		size[measure] = min(most, from(r, 0, most+2))
	}
	return size
}

// anySet returns some of n numbers, increasing.
func anySet(r *rand.Rand, n int) []int {
	var l []int
	for i := range n {
		if r.IntN(2) == 0 {
			l = append(l, i)
		}
	}
	return l
}

// upTo returns the numbers below n.
func upTo(n int) []int {
	var l []int
	for i := range n {
		l = append(l, i)
	}
	return l
}

// must returns the result of a call that has no error.
func must[T any](t *testing.T, what string) func(T, api.Errno) T {
	return func(got T, e api.Errno) T {
		t.Helper()
		if e != api.OK {
			t.Fatalf("%s: error %d", what, e)
		}
		return got
	}
}

// check reports a result with its error, if they are not as they should be.
func check[T comparable](t *testing.T, what string, got T, e api.Errno, want T, wantErr api.Errno) {
	t.Helper()
	if got != want || e != wantErr {
		t.Errorf("%s: %v, %d, want %v, %d", what, got, e, want, wantErr)
	}
}

// checkList reports a list with its error, if they are not as they should be; nil is the same as empty.
func checkList[T comparable](t *testing.T, what string, got []T, e api.Errno, want []T, wantErr api.Errno) {
	t.Helper()
	if !slices.Equal(got, want) || e != wantErr {
		t.Errorf("%s: %v, %d, want %v, %d", what, got, e, want, wantErr)
	}
}

// checkNumbered reports a list and a number with their error, if they are not as they should be.
func checkNumbered(t *testing.T, what string, got []int, n int64, e api.Errno, want []int, wantN int64, wantErr api.Errno) {
	t.Helper()
	if !slices.Equal(got, want) || n != wantN || e != wantErr {
		t.Errorf("%s: %v, %d, %d, want %v, %d, %d", what, got, n, e, want, wantN, wantErr)
	}
}

// checkRoute reports a route with its error, if they are not as they should be.
func checkRoute(t *testing.T, what string, got api.Route, e api.Errno, want api.Route, wantErr api.Errno) {
	t.Helper()
	if !isSameRoute(got, want) || e != wantErr {
		t.Errorf("%s: %v, %d, want %v, %d", what, got, e, want, wantErr)
	}
}

func isSameRoute(a, b api.Route) bool {
	return slices.Equal(a.Roads, b.Roads) && slices.Equal(a.Works, b.Works) && a.Cost == b.Cost && a.Minutes == b.Minutes
}

// checkProof reports a proof with its error, if they are not as they should be.
func checkProof(t *testing.T, what string, got api.Bound, e api.Errno, want api.Bound, wantErr api.Errno) {
	t.Helper()
	if !slices.Equal(got.Shares, want.Shares) || !slices.Equal(got.Places, want.Places) || e != wantErr {
		t.Errorf("%s: %v, %d, want %v, %d", what, got, e, want, wantErr)
	}
}

// checkErr reports an error that is not the one it should be.
func checkErr(t *testing.T, what string, got, want api.Errno) {
	t.Helper()
	if got != want {
		t.Errorf("%s: error %d, want %d", what, got, want)
	}
}

// anyList returns some of the numbers below n, in any order, and some of them twice.
func anyList(r *rand.Rand, n int) []int {
	var l []int
	for range r.IntN(5) {
		l = append(l, r.IntN(n))
	}
	return l
}
