package bridge_test

import (
	"fmt"
	"math/rand/v2"
	"reflect"
	"slices"
	"testing"

	"gooseneck/api"
	"gooseneck/bridge"
)

// hand is arguments for any function of the package.
type hand struct {
	b           api.Bridge
	t           []api.Force
	v           api.Vehicle
	loads       []int64
	p           api.Pavement
	span        int
	x, s        int64
	isTrue      bool
	cover, wide int64
	passes      int64
}

func (h hand) clone() hand {
	h.b.Spans, h.b.Moment, h.b.Shear = slices.Clone(h.b.Spans), slices.Clone(h.b.Moment), slices.Clone(h.b.Shear)
	h.t, h.loads = slices.Clone(h.t), slices.Clone(h.loads)
	h.v.Units = slices.Clone(h.v.Units)
	for i := range h.v.Units {
		h.v.Units[i].Axles = slices.Clone(h.v.Units[i].Axles)
	}
	return h
}

// shown is a value as a text; a nil list and an empty one have the same.
func shown(x any) string { return fmt.Sprintf("%v", x) }

// answer is what a call returns.
type answer struct {
	value any
	err   api.Errno
}

func (a answer) same(b answer) bool { return shown(a) == shown(b) }

// zero reports whether the result beside the error is a zero value.
func (a answer) zero() bool { return shown(a.value) == shown(reflect.Zero(reflect.TypeOf(a.value))) }

// of returns what a call returns as an answer.
func of[T any](value T, e api.Errno) answer { return answer{value, e} }

// onTrain are the functions of the package that take a bridge and a train.
func onTrain() map[string]func(h hand) answer {
	return map[string]func(h hand) answer{
		"Moment":      func(h hand) answer { return of(bridge.Moment(h.b, h.t, h.span, h.x, h.s)) },
		"End":         func(h hand) answer { return of(bridge.End(h.b, h.t, h.span, h.isTrue, h.s)) },
		"WorstMoment": func(h hand) answer { return of(bridge.WorstMoment(h.b, h.t, h.span, h.x)) },
		"WorstEnd":    func(h hand) answer { return of(bridge.WorstEnd(h.b, h.t, h.span, h.isTrue)) },
		"Pier":        func(h hand) answer { return of(bridge.Pier(h.b, h.t, h.span, h.s)) },
		"WorstPier":   func(h hand) answer { return of(bridge.WorstPier(h.b, h.t, h.span)) },
		"Moments":     func(h hand) answer { return of(bridge.Moments(h.b, h.t)) },
		"Bears":       func(h hand) answer { return of(bridge.Bears(h.b, h.t, h.isTrue)) },
		"Most":        func(h hand) answer { return of(bridge.Most(h.b, h.t, h.isTrue)) },
	}
}

// onGround are the functions of the package that take a train and no bridge.
func onGround() map[string]func(h hand) answer {
	return map[string]func(h hand) answer{
		"CheckTrain": func(h hand) answer { return of(0, bridge.CheckTrain(h.t)) },
		"Pressure":   func(h hand) answer { return of(bridge.Pressure(h.t, h.cover, h.wide)) },
		"Damage":     func(h hand) answer { return of(bridge.Damage(h.p, h.t, h.passes)) },
		"Left":       func(h hand) answer { return of(bridge.Left(h.p, h.t, h.passes)) },
	}
}

// calls are all functions of the package.
func calls() map[string]func(h hand) answer {
	all := onTrain()
	for what, call := range onGround() {
		all[what] = call
	}
	all["Check"] = func(h hand) answer { return of(0, bridge.Check(h.b)) }
	all["Line"] = func(h hand) answer { return of(bridge.Line(h.b, h.span, h.x, h.s)) }
	all["Train"] = func(h hand) answer { return of(bridge.Train(h.v, h.loads)) }
	all["CheckPavement"] = func(h hand) answer { return of(0, bridge.CheckPavement(h.p)) }
	return all
}

// deal returns arguments of which many are at a limit, or beyond it.
func deal(r *rand.Rand) hand {
	number := func() int64 { return extremes[r.IntN(len(extremes))] }
	most := from(r, 100, 1<<from(r, 7, 17))
	b, span, x := anyPlace(r, most)
	v, loads := anyVehicle(r, 4, 6, 1<<from(r, 0, 15))
	h := hand{
		b: b, t: anyTrain(r, 1+r.Int64N(8), min(2*most, 1<<18), 1<<from(r, 0, 20)), v: v, loads: loads,
		p: pavement(from(r, 1, 1<<20), from(r, 1, 1<<20), 1+r.IntN(6)), span: max(0, span-r.IntN(2)), x: x / 2, s: from(r, -10, 3*most),
		isTrue: r.IntN(2) == 0, cover: from(r, 0, 1<<14), wide: from(r, 100, 10000), passes: from(r, 0, 1000000),
	}
	if r.IntN(2) == 0 {
		fit(h.b, h.t, from(r, 500, 2000))
	}
	axle := &h.t[r.IntN(len(h.t))]
	numbers := []*int64{
		&h.b.Spans[r.IntN(len(h.b.Spans))], &h.b.Moment[0], &h.b.Shear[0], &h.b.Dynamic, &h.b.Traffic, &axle.X, &axle.P,
		&h.v.Units[0].Length, &h.v.Units[0].Axles[0].X, &h.loads[0], &h.p.Load, &h.p.Life, &h.x, &h.s, &h.cover, &h.wide, &h.passes,
	}
	for range r.IntN(3) {
		*numbers[r.IntN(len(numbers))] = number()
	}
	indexes := []*int{&h.b.Lanes, &h.p.Power, &h.span}
	if r.IntN(6) == 0 {
		*indexes[r.IntN(3)] = int(number())
	}
	if r.IntN(12) == 0 {
		h.t = [][]api.Force{nil, {}, repeated(64, 4161, 1<<20), repeated(65, 1, 1)}[r.IntN(4)]
	}
	if r.IntN(12) == 0 {
		h.b = []api.Bridge{{}, beams(slices.Repeat([]int64{1 << 17}, 6)...), beams(slices.Repeat([]int64{100}, 7)...), {Spans: h.b.Spans}}[r.IntN(4)]
	}
	return h
}

// P1, R2, R5, R6, R10: each function ends and does not panic for all arguments; it changes none of them; it returns zero
// values with an error (but for Bears, with ErrLimit), and the same if it is called again.
func TestAnyArguments(t *testing.T) {
	r := chance(20)
	fine := map[string]int{}
	for range 3000 {
		h := deal(r)
		for what, call := range calls() {
			before := h.clone()
			a := call(h)
			if shown(h) != shown(before) {
				t.Fatalf("%s has changed an argument", what)
			}
			if a.err != api.OK && !a.zero() && (what != "Bears" || a.err != api.ErrLimit) {
				t.Errorf("%s of %v: %v", what, before, a)
			}
			if a.err == api.OK {
				fine[what]++
			}
			if again := call(before); !again.same(a) {
				t.Errorf("%s of %v: %v, and then %v", what, before, a, again)
			}
		}
	}
	for what := range calls() {
		if fine[what] < 100 {
			t.Errorf("%s has ended without an error only %d times", what, fine[what])
		}
	}
}

// Functions with a bridge return the error of Check before all others, and those with a train then that of CheckTrain.
func TestErrorsOfChecksFirst(t *testing.T) {
	low := extremes[0]
	bad := hand{span: -1, x: low, s: low, cover: low, wide: low, passes: low, p: pavement(1, 1, 1)}
	for _, x := range []struct {
		b    api.Bridge
		want api.Errno
	}{
		{api.Bridge{}, api.ErrMany},
		{beams(slices.Repeat([]int64{100}, 7)...), api.ErrMany},
		{api.Bridge{Spans: []int64{0}}, api.ErrEqual},
		{beams(99), api.ErrArg},
	} {
		bad.b = x.b
		for what, call := range onTrain() {
			if a := call(bad); a.err != x.want || !a.zero() {
				t.Errorf("%s of %v: %v, want %d", what, x.b, a, x.want)
			}
		}
		if a := calls()["Line"](bad); a.err != x.want || !a.zero() {
			t.Errorf("Line of %v: %v, want %d", x.b, a, x.want)
		}
	}
	bad.b = beams(1000)
	for _, x := range []struct {
		train []api.Force
		want  api.Errno
	}{
		{nil, api.ErrMany},
		{repeated(65, -1, -1), api.ErrMany},
		{forces(1, 1), api.ErrArg},
		{forces(0, -1), api.ErrArg},
	} {
		bad.t = x.train
		for _, some := range []map[string]func(h hand) answer{onTrain(), onGround()} {
			for what, call := range some {
				if a := call(bad); a.err != x.want || !a.zero() {
					t.Errorf("%s of %v: %v, want %d", what, x.train, a, x.want)
				}
			}
		}
	}
}

// R3: a nil list and an empty one are the same.
func TestNilIsEmpty(t *testing.T) {
	v := vehicle(unit(api.UnitTractor, 4000, 0, 4000))
	a := hand{b: example(), t: two(), v: v, loads: []int64{5}, p: pavement(1, 1, 1), wide: 100}
	for _, x := range []struct {
		what        string
		none, empty func(h *hand)
	}{
		{"spans", func(h *hand) { h.b.Spans = nil }, func(h *hand) { h.b.Spans = []int64{} }},
		{"moments", func(h *hand) { h.b.Moment = nil }, func(h *hand) { h.b.Moment = []int64{} }},
		{"shears", func(h *hand) { h.b.Shear = nil }, func(h *hand) { h.b.Shear = []int64{} }},
		{"axles", func(h *hand) { h.t = nil }, func(h *hand) { h.t = []api.Force{} }},
		{"loads", func(h *hand) { h.loads = nil }, func(h *hand) { h.loads = []int64{} }},
		{"units", func(h *hand) { h.v.Units = nil }, func(h *hand) { h.v.Units = []api.Unit{} }},
		{"axles of a unit", func(h *hand) { h.v.Units[0].Axles = nil }, func(h *hand) { h.v.Units[0].Axles = []api.Axle{} }},
	} {
		none, empty := a.clone(), a.clone()
		x.none(&none)
		x.empty(&empty)
		for name, call := range calls() {
			if p, q := call(none), call(empty); !p.same(q) {
				t.Errorf("%s of %s: %v with nil, %v with an empty list", name, x.what, p, q)
			}
		}
	}
}

// R5: a result shares no memory with an argument, or with another result.
func TestResultsAreNewMemory(t *testing.T) {
	v, loads := vehicle(unit(api.UnitTractor, 4000, 0, 300, 4000)), []int64{5}
	a, b := must[[]api.Force](t, "Train")(bridge.Train(v, loads)), must[[]api.Force](t, "Train")(bridge.Train(v, loads))
	clear(a[:cap(a)])
	checkList(t, "Train", b, api.OK, forces(0, 5, 3700, 5), api.OK)
	checkList(t, "the loads", loads, api.OK, []int64{5}, api.OK)
	c, d := must[[]api.Effect](t, "Moments")(bridge.Moments(example(), two())), must[[]api.Effect](t, "Moments")(bridge.Moments(example(), two()))
	before := slices.Clone(d)
	clear(c[:cap(c)])
	checkList(t, "Moments", d, api.OK, before, api.OK)
}
