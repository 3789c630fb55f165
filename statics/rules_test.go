package statics_test

import (
	"fmt"
	"math/rand/v2"
	"reflect"
	"slices"
	"testing"

	"gooseneck/api"
	"gooseneck/statics"
)

// hand is arguments for any function of the package.
type hand struct {
	p            []api.Support
	mass         int64
	at           api.Point
	c            [3]int64
	slopes       [3]api.Slope
	filling      [3]int64
	ground       []int64
	numbers      [3]int64
	length, away int64
	v            api.Vehicle
	l            api.Load
}

func (h hand) clone() hand {
	h.p, h.ground = slices.Clone(h.p), slices.Clone(h.ground)
	h.v.Units = slices.Clone(h.v.Units)
	for i := range h.v.Units {
		h.v.Units[i].Axles = slices.Clone(h.v.Units[i].Axles)
	}
	h.l.Pieces, h.l.Eyes = slices.Clone(h.l.Pieces), slices.Clone(h.l.Eyes)
	return h
}

// shown is a value as a text; a nil list and an empty one have the same.
func shown(x any) string { return fmt.Sprintf("%v", x) }

// answer is what a call returns.
type answer struct {
	values []any
	err    api.Errno
}

func answers(e api.Errno, values ...any) answer { return answer{values, e} }

func (a answer) same(b answer) bool { return shown(a) == shown(b) }

// zero reports whether all results but the error are zero values.
func (a answer) zero() bool {
	for _, v := range a.values {
		if shown(v) != shown(reflect.Zero(reflect.TypeOf(v))) {
			return false
		}
	}
	return true
}

// onPlatform are the functions of the package that take a platform.
func onPlatform() map[string]func(h hand) answer {
	return map[string]func(h hand) answer{
		"Check":  func(h hand) answer { return answers(statics.Check(h.p)) },
		"Sums":   func(h hand) answer { s, e := statics.Sums(h.p); return answers(e, s) },
		"Parts":  func(h hand) answer { l, d, e := statics.Parts(h.p, h.at); return answers(e, l, d) },
		"Shares": func(h hand) answer { l, e := statics.Shares(h.p, h.mass, h.at); return answers(e, l) },
		"Tips":   func(h hand) answer { g, e := statics.Tips(h.p, h.at); return answers(e, g) },
		"Tilt":   func(h hand) answer { n, e := statics.Tilt(h.p, h.c, h.slopes[2]); return answers(e, n) },
		"Height": func(h hand) answer {
			n, e := statics.Height(h.p, h.filling, h.ground, h.at)
			return answers(e, n)
		},
		"Strokes": func(h hand) answer { l, e := statics.Strokes(h.p, h.filling, h.ground); return answers(e, l) },
		"Divide":  func(h hand) answer { r, e := statics.Divide(h.p, h.mass, h.at); return answers(e, r) },
		"Stands":  func(h hand) answer { l, e := statics.Stands(h.p, h.l, h.slopes[0], h.slopes[1]); return answers(e, l) },
	}
}

// calls are all functions of the package.
func calls() map[string]func(h hand) answer {
	all := onPlatform()
	all["Foot"] = func(h hand) answer { p, e := statics.Foot(h.c, h.slopes[0], h.slopes[1]); return answers(e, p) }
	all["Blown"] = func(h hand) answer {
		p, e := statics.Blown(h.c, h.slopes[0], h.slopes[1], h.slopes[2], h.numbers[0], h.mass)
		return answers(e, p)
	}
	all["Lever"] = func(h hand) answer {
		a, b, e := statics.Lever(h.mass, h.numbers[0], h.numbers[1], h.numbers[2])
		return answers(e, a, b)
	}
	all["Axles"] = func(h hand) answer {
		l, e := statics.Axles(h.v, h.mass, h.length, h.away)
		return answers(e, l)
	}
	return all
}

// deal returns arguments of which many are at a limit, or beyond it.
func deal(t *testing.T, r *rand.Rand) hand {
	number := func() int64 { return extremes[r.IntN(len(extremes))] }
	p := stroked(anyPlatform(t, r, 12, from(r, 1, side)))
	h := hand{
		p: p, mass: from(r, 1, 1<<from(r, 0, 24)), at: amid(r, p), filling: fillings(r, 9000), ground: heights(r, len(p), 20),
		v: train(r.IntN(2), r.IntN(4)), l: box(from(r, -99, 99), from(r, -99, 99), from(r, 1, 99), from(r, 1, 9999)),
		length: from(r, 1, 9999), away: from(r, 0, 9999),
	}
	for i := range 3 {
		h.slopes[i] = slope(from(r, -10, 10), from(r, -10, 10))
		h.numbers[i] = from(r, int64(-5+5*i), int64(5*i))
		h.c[i] = from(r, -99, 99)
	}
	if r.IntN(2) == 0 {
		h.p = append(limited(wide(), api.MaxLoad), p...)[:48]
		h.at, h.ground = pt(from(r, -side, side), from(r, -side, side)), heights(r, 48, 20)
		h.filling = [3]int64{from(r, 9999, 30000), from(r, 9999, 30000), from(r, 9999, 30000)}
	}
	if r.IntN(3) == 0 {
		s := &h.p[r.IntN(len(h.p))]
		numbers := []*int64{&s.X, &s.Y, &s.Limit, &s.Least, &s.Most}
		*numbers[r.IntN(5)] = number()
	}
	if r.IntN(9) == 0 {
		h.p[0].Group = int(number())
	}
	numbers := []*int64{
		&h.mass, &h.at.X, &h.at.Y, &h.c[0], &h.c[1], &h.c[2], &h.slopes[0].X, &h.slopes[0].Y, &h.slopes[1].X, &h.slopes[1].Y,
		&h.slopes[2].X, &h.slopes[2].Y, &h.filling[r.IntN(3)], &h.ground[r.IntN(len(h.ground))], &h.numbers[0], &h.numbers[1],
		&h.numbers[2], &h.length, &h.away, &h.l.Friction, &h.l.Pieces[0].X, &h.v.Units[0].Mass,
	}
	for range r.IntN(4) {
		*numbers[r.IntN(len(numbers))] = number()
	}
	if r.IntN(9) == 0 {
		h.p = [][]api.Support{nil, {}, h.p[:2], append(wide(), at(0, 0, 0)), regrouped(h.p, make([]int, len(h.p)))}[r.IntN(5)]
	}
	return h
}

// P1, R2, R5, R6, R10: each function ends and does not panic for all arguments; it changes none of them; it returns zero
// values with an error, and the same if it is called again.
func TestAnyArguments(t *testing.T) {
	r := chance(21)
	fine := map[string]int{}
	for range 5000 {
		h := deal(t, r)
		for what, call := range calls() {
			before := h.clone()
			a := call(h)
			if shown(h) != shown(before) {
				t.Fatalf("%s has changed an argument", what)
			}
			if a.err != api.OK && !a.zero() {
				t.Errorf("%s of %v: %v", what, before, a)
			}
			if a.err == api.OK {
				fine[what]++
			}
			if again := call(before); !again.same(a) {
				t.Errorf("%s of %v: %v, and then %v", what, before, a, again)
			}
		}
	}
	for what := range calls() {
		if fine[what] < 100 {
			t.Errorf("%s has ended without an error only %d times", what, fine[what])
		}
	}
}

// All functions with a platform return the error of Check before all others.
func TestErrorOfCheckFirst(t *testing.T) {
	low := extremes[0]
	bad := hand{mass: low, at: pt(low, low), c: [3]int64{low, low, low}, filling: [3]int64{low, low, low}, ground: []int64{low}}
	for i := range 3 {
		bad.slopes[i] = slope(low, low)
	}
	for _, x := range []struct {
		p    []api.Support
		want api.Errno
	}{
		{nil, api.ErrMany},
		{append(wide(), at(0, 0, 0)), api.ErrMany},
		{append(corner(), at(0, 0, 3)), api.ErrArg},
		{[]api.Support{at(0, 0, 0), at(1, 1, 1), at(2, 2, 2)}, api.ErrZero},
	} {
		bad.p = x.p
		for what, call := range onPlatform() {
			if a := call(bad); a.err != x.want || !a.zero() {
				t.Errorf("%s of %v: %v, want %d", what, x.p, a, x.want)
			}
		}
	}
}

// R3: a nil list and an empty one are the same.
func TestNilIsEmpty(t *testing.T) {
	a := hand{p: example(), mass: 1, v: train(0, 0), length: 1, l: box(9, 9, 9, 9)}
	for _, x := range []struct {
		what   string
		change func(h *hand)
	}{
		{"heights", func(h *hand) { h.ground = []int64{} }},
		{"eyes", func(h *hand) { h.l.Eyes = []api.Eye{} }},
		{"pieces", func(h *hand) { h.l.Pieces = []api.Piece{} }},
		{"axles", func(h *hand) { h.v.Units[1].Axles = []api.Axle{} }},
		{"units", func(h *hand) { h.v.Units = []api.Unit{} }},
		{"supports", func(h *hand) { h.p = []api.Support{} }},
	} {
		empty, none := a.clone(), a.clone()
		x.change(&empty)
		x.change(&none)
		none.ground, none.l.Eyes = nil, nil
		if x.what == "pieces" {
			none.l.Pieces = nil
		}
		if x.what == "axles" {
			none.v.Units[1].Axles = nil
		}
		if x.what == "units" {
			none.v.Units = nil
		}
		if x.what == "supports" {
			none.p = nil
		}
		for name, call := range calls() {
			if p, q := call(none), call(empty); !p.same(q) {
				t.Errorf("%s of %s: %v with nil, %v with an empty list", name, x.what, p, q)
			}
		}
	}
}

// R5: a result shares no memory with an argument, or with another result.
func TestResultsAreNewMemory(t *testing.T) {
	ground, p := []int64{0, 0, 0, 0}, two(3)
	for what, call := range map[string]func() ([]int64, api.Errno){
		"Strokes": func() ([]int64, api.Errno) { return statics.Strokes(square(), [3]int64{1000, 500, 500}, ground) },
		"Axles":   func() ([]int64, api.Errno) { return statics.Axles(train(1, 3), 1000, 100, 25) },
	} {
		result, other := must[[]int64](t, what)(call()), must[[]int64](t, what)(call())
		before := shown(other)
		for i := range result {
			result[i] = -1
		}
		if shown(other) != before || shown(ground) != shown([]int64{0, 0, 0, 0}) {
			t.Errorf("%s shares memory", what)
		}
	}
	result, other := must[api.Regroup](t, "Divide")(statics.Divide(p, 1200, pt(400, 0))), must[api.Regroup](t, "Divide")(statics.Divide(p, 1200, pt(400, 0)))
	clear(result.Groups[:cap(result.Groups)])
	if !slices.Equal(other.Groups, []int{1, 0, 1, 2, 1, 2}) || !slices.Equal(p, two(3)) {
		t.Error("Divide shares memory")
	}
}
