package road_test

import (
	"fmt"
	"math/rand/v2"
	"reflect"
	"slices"
	"testing"

	"gooseneck/api"
	"gooseneck/road"
)

// hand is arguments for any function of the package.
type hand struct {
	m        api.Map
	size     [6]int64
	works    []int
	roads    []int
	from, to int
	start    int64
	places   []int
	labels   []int64
	proof    api.Bound
}

func (h hand) clone() hand {
	h.m = clone(h.m)
	h.works, h.roads, h.places, h.labels = slices.Clone(h.works), slices.Clone(h.roads), slices.Clone(h.places), slices.Clone(h.labels)
	h.proof.Shares, h.proof.Places = slices.Clone(h.proof.Shares), slices.Clone(h.proof.Places)
	return h
}

// shown is a value as a text; a nil list and an empty one have the same.
func shown(x any) string { return fmt.Sprintf("%v", x) }

// answer is what a call returns.
type answer struct {
	value any
	err   api.Errno
}

func (a answer) same(b answer) bool { return shown(a) == shown(b) }

// zero reports whether the result beside the error is a zero value.
func (a answer) zero() bool { return shown(a.value) == shown(reflect.Zero(reflect.TypeOf(a.value))) }

// of returns what a call returns as an answer.
func of[T any](value T, e api.Errno) answer { return answer{value, e} }

// numbered is a list with a number.
type numbered struct {
	List []int
	N    int64
}

func ofBoth(list []int, n int64, e api.Errno) answer { return answer{numbered{list, n}, e} }

// sized are the functions of the package that take a map and a size.
func sized() map[string]func(h hand) answer {
	return map[string]func(h hand) answer{
		"Causes":      func(h hand) answer { return of(road.Causes(h.m, h.size, h.works, h.roads)) },
		"Works":       func(h hand) answer { return ofBoth(road.Works(h.m, h.size, h.roads)) },
		"Cheapest":    func(h hand) answer { return of(road.Cheapest(h.m, h.size, h.from, h.to)) },
		"Bound":       func(h hand) answer { return of(road.Bound(h.m, h.size, h.from, h.to)) },
		"CheckBound":  func(h hand) answer { return of(road.CheckBound(h.m, h.size, h.from, h.to, h.proof)) },
		"Reach":       func(h hand) answer { return of(road.Reach(h.m, h.size, h.works, h.from)) },
		"CheckCut":    func(h hand) answer { return of(0, road.CheckCut(h.m, h.size, h.from, h.to, h.places)) },
		"Soonest":     func(h hand) answer { return ofBoth(road.Soonest(h.m, h.size, h.works, h.from, h.to, h.start)) },
		"Labels":      func(h hand) answer { return of(road.Labels(h.m, h.size, h.works, h.from, h.start)) },
		"CheckLabels": func(h hand) answer { return of(0, road.CheckLabels(h.m, h.size, h.works, h.from, h.start, h.labels)) },
	}
}

// onMap are the functions of the package that take a map.
func onMap() map[string]func(h hand) answer {
	all := sized()
	all["Check"] = func(h hand) answer { return of(0, road.Check(h.m)) }
	all["IsRoute"] = func(h hand) answer { return of(road.IsRoute(h.m, h.from, h.to, h.roads)) }
	all["Arrive"] = func(h hand) answer { return of(road.Arrive(h.m, h.roads, h.start)) }
	return all
}

// calls are all functions of the package.
func calls() map[string]func(h hand) answer {
	all := onMap()
	all["CheckSize"] = func(h hand) answer { return of(0, road.CheckSize(h.size)) }
	return all
}

// deal returns arguments of which many are at a limit, or beyond it.
func deal(r *rand.Rand) hand {
	m, size := anyMap(r, small), anySize(r)
	roads, _ := anyWalk(r, m, r.IntN(m.Places))
	h := hand{
		m: m, size: size, works: anySet(r, len(m.Works)), roads: roads, from: r.IntN(m.Places), to: r.IntN(m.Places),
		start: from(r, 0, 1<<from(r, 0, 40)), places: anySet(r, m.Places),
	}
	h.proof = anyProof(r, m, size, h.from)
	h.labels = labelsOf(m, size, h.works, h.from, h.start)
	one, share := &h.m.Roads[r.IntN(len(m.Roads))], &api.Share{}
	if len(h.proof.Shares) > 0 {
		share = &h.proof.Shares[0]
	}
	numbers := []*int64{
		&one.Cost, &one.Minutes, &one.Open, &one.Close, &one.Limit[r.IntN(6)], &h.size[r.IntN(6)], &h.start, &h.start,
		&h.labels[r.IntN(len(h.labels))], &share.Part,
	}
	if len(h.proof.Places) > 0 {
		numbers = append(numbers, &h.proof.Places[r.IntN(len(h.proof.Places))])
	}
	for range r.IntN(3) {
		*numbers[r.IntN(len(numbers))] = extremes[r.IntN(len(extremes))]
	}
	h.works, h.roads, h.places = append(h.works, 0)[:len(h.works)], append(h.roads, 0), append(h.places, 0)[:len(h.places)]
	indexes := []*int{&h.m.Places, &one.From, &one.To, &h.from, &h.to, &h.roads[0], &share.Work, &share.Road, &share.Measure}
	for _, l := range [][]int{h.works, h.places} {
		if len(l) > 0 {
			indexes = append(indexes, &l[r.IntN(len(l))])
		}
	}
	if r.IntN(3) == 0 {
		*indexes[r.IntN(len(indexes))] = int(extremes[r.IntN(len(extremes))])
	}
	if r.IntN(2) == 0 {
		h.roads = h.roads[:len(h.roads)-1]
	}
	if r.IntN(20) == 0 {
		h.m = []api.Map{{}, cityMap(1), cityMap(2, repeatedRoads(257)...), cityMap(64, repeatedRoads(256)...)}[r.IntN(4)]
	}
	return h
}

// P1, R2, R5, R6, R10: each function ends and does not panic for all arguments; it changes none of them; it returns zero
// values with an error, and the same if it is called again.
func TestAnyArguments(t *testing.T) {
	r := chance(22)
	fine := map[string]int{}
	for range 5000 {
		h := deal(r)
		for what, call := range calls() {
			before := h.clone()
			a := call(h)
			if shown(h) != shown(before) {
				t.Fatalf("%s has changed an argument", what)
			}
			if a.err != api.OK && !a.zero() {
				t.Errorf("%s of %v: %v", what, before, a)
			}
			if a.err == api.OK {
				fine[what]++
			}
			if again := call(before); !again.same(a) {
				t.Errorf("%s of %v: %v, and then %v", what, before, a, again)
			}
		}
	}
	for what := range calls() {
		if fine[what] < 100 {
			t.Errorf("%s has ended without an error only %d times", what, fine[what])
		}
	}
}

// worst returns arguments that are all wrong.
func worst() hand {
	return hand{
		m: cityMap(0, repeatedRoads(257)...), size: all(-1), works: []int{-1}, roads: slices.Repeat([]int{-1}, 257),
		from: -1, to: -1, start: -1, places: []int{-1}, labels: []int64{-2},
	}
}

// Functions with a map return the error of Check before all others, and those with a size then that of CheckSize.
func TestErrorsOfChecksFirst(t *testing.T) {
	h := worst()
	for _, x := range []struct {
		m    api.Map
		want api.Errno
	}{
		{h.m, api.ErrMany},
		{withWorks(cityMap(0), make([]api.Work, 11)...), api.ErrMany},
		{withWorks(cityMap(0), widen(0, 0, make([]int, 17)...)), api.ErrMany},
		{api.Map{}, api.ErrArg},
		{cityMap(int(extremes[0])), api.ErrArg},
		{cityMap(int(extremes[len(extremes)-1])), api.ErrArg},
	} {
		h.m = x.m
		for what, call := range onMap() {
			if a := call(h); a.err != x.want || !a.zero() {
				t.Errorf("%s of a wrong map: %v, want %d", what, a, x.want)
			}
		}
	}
	h.m = example()
	for what, call := range sized() {
		if a := call(h); a.err != api.ErrArg || !a.zero() {
			t.Errorf("%s of a wrong size: %v", what, a)
		}
	}
}

// The errors of works, places, roads and a start come in the order of the arguments, and ahead of those of what is left.
func TestErrorsInOrder(t *testing.T) {
	tooMany := func(h *hand) { h.roads = slices.Repeat([]int{0}, 257) }
	noRoad := func(h *hand) { h.roads = []int{0, 3} }
	below := func(h *hand) { h.roads = []int{-1, 0} }
	notMeeting := func(h *hand) { h.roads = []int{1, 0} }
	works := func(h *hand) { h.works = []int{0, 2} }
	from, to := func(h *hand) { h.from = 3 }, func(h *hand) { h.to = -1 }
	early, late := func(h *hand) { h.start = -1 }, func(h *hand) { h.start = 1<<40 + 1 }
	huge := func(h *hand) { h.size = all(5001) }
	hugeOnRoad := func(h *hand) {
		h.size = all(5001)
		h.roads = append(h.roads, 0)
	}
	cut, labels := func(h *hand) { h.places = []int{0, 3} }, func(h *hand) { h.labels = []int64{-2, 0} }
	proof := func(h *hand) { h.proof = api.Bound{Shares: []api.Share{{Work: -1}}} }
	for _, x := range []struct {
		what  string
		wrong []func(h *hand)
		want  []api.Errno // with all that is wrong, then without the first one of it, and so on
	}{
		{"Causes", []func(h *hand){works, tooMany}, []api.Errno{api.ErrRange, api.ErrMany}},
		{"Causes", []func(h *hand){works, noRoad}, []api.Errno{api.ErrRange, api.ErrRange}},
		{"IsRoute", []func(h *hand){from, tooMany}, []api.Errno{api.ErrRange, api.ErrMany}},
		{"IsRoute", []func(h *hand){to, below}, []api.Errno{api.ErrRange, api.ErrRange}},
		{"Works", []func(h *hand){tooMany, hugeOnRoad}, []api.Errno{api.ErrMany, api.ErrPlan}},
		{"Works", []func(h *hand){noRoad, hugeOnRoad}, []api.Errno{api.ErrRange, api.ErrPlan}},
		{"Cheapest", []func(h *hand){from, huge}, []api.Errno{api.ErrRange, api.ErrPlan}},
		{"Cheapest", []func(h *hand){to, huge}, []api.Errno{api.ErrRange, api.ErrPlan}},
		{"Bound", []func(h *hand){from, huge}, []api.Errno{api.ErrRange, api.ErrPlan}},
		{"Bound", []func(h *hand){to, huge}, []api.Errno{api.ErrRange, api.ErrPlan}},
		{"CheckBound", []func(h *hand){from, proof}, []api.Errno{api.ErrRange, api.ErrEqual}},
		{"CheckBound", []func(h *hand){to, proof}, []api.Errno{api.ErrRange, api.ErrEqual}},
		{"Reach", []func(h *hand){works, from}, []api.Errno{api.ErrRange, api.ErrRange}},
		{"CheckCut", []func(h *hand){from, cut}, []api.Errno{api.ErrRange, api.ErrRange}},
		{"CheckCut", []func(h *hand){to, cut}, []api.Errno{api.ErrRange, api.ErrRange}},
		{"Arrive", []func(h *hand){tooMany, early}, []api.Errno{api.ErrMany, api.ErrRange}},
		{"Arrive", []func(h *hand){below, late}, []api.Errno{api.ErrRange, api.ErrRange}},
		{"Arrive", []func(h *hand){late, notMeeting}, []api.Errno{api.ErrRange, api.ErrSum}},
		{"Soonest", []func(h *hand){works, from, early}, []api.Errno{api.ErrRange, api.ErrRange, api.ErrRange}},
		{"Soonest", []func(h *hand){to, late}, []api.Errno{api.ErrRange, api.ErrRange}},
		{"Soonest", []func(h *hand){late, huge}, []api.Errno{api.ErrRange, api.ErrPlan}},
		{"Labels", []func(h *hand){works, from, early}, []api.Errno{api.ErrRange, api.ErrRange, api.ErrRange}},
		{"Labels", []func(h *hand){from, late}, []api.Errno{api.ErrRange, api.ErrRange}},
		{"CheckLabels", []func(h *hand){works, from, labels}, []api.Errno{api.ErrRange, api.ErrRange, api.ErrEqual}},
		{"CheckLabels", []func(h *hand){late, labels}, []api.Errno{api.ErrRange, api.ErrEqual}},
	} {
		for i, want := range x.want {
			h := hand{m: example(), size: wide(4000), to: 2, start: 500, labels: []int64{500, 0, 0}}
			for _, wrong := range x.wrong[i:] {
				wrong(&h)
			}
			if a := calls()[x.what](h); a.err != want || !a.zero() {
				t.Errorf("%s with what is wrong from number %d on: %v, want %d", x.what, i, a, want)
			}
		}
	}
}

// The errors of works, of places, of roads and of a start, each alone, for all functions that take them.
func TestErrorsOfArguments(t *testing.T) {
	type taker map[string]bool
	takesWorks := taker{"Causes": true, "Reach": true, "Soonest": true, "Labels": true, "CheckLabels": true}
	takesRoads := taker{"Causes": true, "IsRoute": true, "Works": true, "Arrive": true}
	takesTo := taker{"IsRoute": true, "Cheapest": true, "Bound": true, "CheckBound": true, "CheckCut": true, "Soonest": true}
	takesFrom := taker{"Reach": true, "Labels": true, "CheckLabels": true}
	takesStart := taker{"Arrive": true, "Soonest": true, "Labels": true, "CheckLabels": true}
	for what := range takesTo {
		takesFrom[what] = true
	}
	var last = extremes[len(extremes)-1]
	for _, x := range []struct {
		what  string
		set   func(h *hand)
		takes taker
		want  api.Errno
	}{
		{"a work below 0", func(h *hand) { h.works = []int{-1, 0} }, takesWorks, api.ErrRange},
		{"a work above", func(h *hand) { h.works = []int{2} }, takesWorks, api.ErrRange},
		{"a work twice", func(h *hand) { h.works = []int{1, 1} }, takesWorks, api.ErrRange},
		{"works that decrease", func(h *hand) { h.works = []int{1, 0} }, takesWorks, api.ErrRange},
		{"a work far above", func(h *hand) { h.works = []int{0, int(last)} }, takesWorks, api.ErrRange},
		{"a road below 0", func(h *hand) { h.roads = []int{-1} }, takesRoads, api.ErrRange},
		{"a road above", func(h *hand) { h.roads = []int{0, 1, 3} }, takesRoads, api.ErrRange},
		{"a road far below", func(h *hand) { h.roads = []int{0, int(extremes[0])} }, takesRoads, api.ErrRange},
		{"too many roads", func(h *hand) { h.roads = slices.Repeat([]int{2}, 257) }, takesRoads, api.ErrMany},
		{"too many roads that there are not", func(h *hand) { h.roads = slices.Repeat([]int{3}, 257) }, takesRoads, api.ErrMany},
		{"from below 0", func(h *hand) { h.from = -1 }, takesFrom, api.ErrRange},
		{"from above", func(h *hand) { h.from = 3 }, takesFrom, api.ErrRange},
		{"to below 0", func(h *hand) { h.to = -1 }, takesTo, api.ErrRange},
		{"to above", func(h *hand) { h.to = 3 }, takesTo, api.ErrRange},
		{"a start below 0", func(h *hand) { h.start = -1 }, takesStart, api.ErrRange},
		{"a start above", func(h *hand) { h.start = 1<<40 + 1 }, takesStart, api.ErrRange},
		{"a start far below", func(h *hand) { h.start = extremes[0] }, takesStart, api.ErrRange},
		{"a start far above", func(h *hand) { h.start = last }, takesStart, api.ErrRange},
		{"nothing", func(h *hand) {}, taker{}, api.OK},
	} {
		h := hand{
			m: example(), size: wide(2000), to: 2, places: []int{0}, labels: []int64{0, 0, 0}, start: 500,
			proof: api.Bound{Places: []int64{0, 0, 0}},
		}
		x.set(&h)
		for what, call := range calls() {
			a := call(h)
			want := api.OK
			switch {
			case x.takes[what]:
				want = x.want
			case what == "CheckCut":
				want = api.ErrSum // all roads are usable
			}
			if a.err != want || a.err != api.OK && !a.zero() {
				t.Errorf("%s with %s: %v, want %d", what, x.what, a, want)
			}
		}
	}
}

// R3: a nil list and an empty one are the same.
func TestNilIsEmpty(t *testing.T) {
	a := hand{m: example(), size: wide(4000), to: 2, places: []int{0}, labels: []int64{0, 0, 0}, proof: api.Bound{Places: []int64{0, 0, 0}}}
	for _, x := range []struct {
		what        string
		none, empty func(h *hand)
	}{
		{"roads of a map", func(h *hand) { h.m.Roads, h.m.Works = nil, nil }, func(h *hand) { h.m.Roads, h.m.Works = []api.Road{}, nil }},
		{"works of a map", func(h *hand) { h.m.Works = nil }, func(h *hand) { h.m.Works = []api.Work{} }},
		{"roads of a work", func(h *hand) { h.m.Works[0].Roads = nil }, func(h *hand) { h.m.Works[0].Roads = []int{} }},
		{"works", func(h *hand) { h.works = nil }, func(h *hand) { h.works = []int{} }},
		{"roads", func(h *hand) { h.roads = nil }, func(h *hand) { h.roads = []int{} }},
		{"places", func(h *hand) { h.places = nil }, func(h *hand) { h.places = []int{} }},
		{"labels", func(h *hand) { h.labels = nil }, func(h *hand) { h.labels = []int64{} }},
		{"shares", func(h *hand) { h.proof.Shares = nil }, func(h *hand) { h.proof.Shares = []api.Share{} }},
		{"places of a proof", func(h *hand) { h.proof.Places = nil }, func(h *hand) { h.proof.Places = []int64{} }},
	} {
		none, empty := a.clone(), a.clone()
		x.none(&none)
		x.empty(&empty)
		for name, call := range calls() {
			if p, q := call(none), call(empty); !p.same(q) {
				t.Errorf("%s of %s: %v with nil, %v with an empty list", name, x.what, p, q)
			}
		}
	}
}

// R5: a result shares no memory with an argument, or with another result.
func TestResultsAreNewMemory(t *testing.T) {
	h := hand{m: example(), size: wide(4000), works: []int{0, 1}, roads: []int{0, 1}, to: 2, start: 500}
	for what, call := range calls() {
		before := h.clone()
		a, b := call(h), call(h)
		want := shown(b)
		spoil(reflect.ValueOf(a.value))
		if shown(b) != want || shown(h) != shown(before) {
			t.Errorf("a result of %s shares memory", what)
		}
	}
}

// spoil clears all lists of a value, with what is behind their ends.
func spoil(v reflect.Value) {
	switch v.Kind() {
	case reflect.Slice:
		for whole := v.Slice(0, v.Cap()); whole.Len() > 0; whole = whole.Slice(1, whole.Len()) {
			whole.Index(0).SetZero()
		}
	case reflect.Struct:
		for i := range v.NumField() {
			spoil(v.Field(i))
		}
	}
}
