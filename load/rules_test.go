package load_test

import (
	"fmt"
	"math"
	"math/rand/v2"
	"reflect"
	"slices"
	"strings"
	"testing"

	"gooseneck/api"
	"gooseneck/load"
)

// hand is arguments for any function of the package.
type hand struct {
	a, b    api.Load
	lashes  []api.Lash
	shakes  []api.Shake
	numbers [3]int64
	n       api.Point
	s       string
}

func (h hand) clone() hand {
	h.a, h.b = clone(h.a), clone(h.b)
	h.lashes, h.shakes = slices.Clone(h.lashes), slices.Clone(h.shakes)
	return h
}

// shown is a value as a text; a nil list and an empty one have the same.
func shown(x any) string { return fmt.Sprintf("%v", x) }

// answer is what a call returns.
type answer struct {
	values []any
	err    api.Errno
}

func answers(e api.Errno, values ...any) answer { return answer{values, e} }

func (a answer) same(b answer) bool { return shown(a) == shown(b) }

// zero reports whether all results but the error are zero values.
func (a answer) zero() bool {
	for _, v := range a.values {
		if shown(v) != shown(reflect.Zero(reflect.TypeOf(v))) {
			return false
		}
	}
	return true
}

// calls are all functions of the package.
func calls() map[string]func(h hand) answer {
	int0 := func(h hand) int { return int(h.numbers[0]) }
	return map[string]func(h hand) answer{
		"Check":    func(h hand) answer { return answers(load.Check(h.a)) },
		"Mass":     func(h hand) answer { m, e := load.Mass(h.a); return answers(e, m) },
		"Moments":  func(h hand) answer { m, e := load.Moments(h.a); return answers(e, m) },
		"Centre":   func(h hand) answer { c, e := load.Centre(h.a); return answers(e, c) },
		"Envelope": func(h hand) answer { a, b, e := load.Envelope(h.a); return answers(e, a, b) },
		"Outline":  func(h hand) answer { l, e := load.Outline(h.a); return answers(e, l) },
		"Above":    func(h hand) answer { l, e := load.Above(h.a, h.numbers[0]); return answers(e, l) },
		"Overlap":  func(h hand) answer { i, k, e := load.Overlap(h.a); return answers(e, i, k) },
		"Rests":    func(h hand) answer { l, e := load.Rests(h.a, int0(h)); return answers(e, l) },
		"Carries":  func(h hand) answer { l, e := load.Carries(h.a, int0(h)); return answers(e, l) },
		"Falls":    func(h hand) answer { i, e := load.Falls(h.a); return answers(e, i) },
		"Turned":   func(h hand) answer { l, e := load.Turned(h.a, int0(h)); return answers(e, l) },
		"Shifted": func(h hand) answer {
			l, e := load.Shifted(h.a, h.numbers[0], h.numbers[1], h.numbers[2])
			return answers(e, l)
		},
		"Joined": func(h hand) answer { l, e := load.Joined(h.a, h.b); return answers(e, l) },
		"Text":   func(h hand) answer { s, e := load.Text(h.a); return answers(e, s) },
		"Parse":  func(h hand) answer { l, e := load.Parse(h.s); return answers(e, l) },
		"Pull":   func(h hand) answer { p, e := load.Pull(h.a, h.lash()); return answers(e, p) },
		"Reach":  func(h hand) answer { l, e := load.Reach(h.a, h.lashes, h.shake()); return answers(e, l) },
		"Need":   func(h hand) answer { p, e := load.Need(h.a, h.shake()); return answers(e, p) },
		"Hold":   func(h hand) answer { p, e := load.Hold(h.a, h.lashes, h.shake()); return answers(e, p) },
		"Slips":  func(h hand) answer { return answers(load.Slips(h.a, h.lashes, h.shake(), h.n)) },
		"Least":  func(h hand) answer { l, e := load.Least(h.a, h.lashes, h.shakes); return answers(e, l) },
	}
}

// lash returns the first lashing, and shake the first shake; some of another kind if there is none.
func (h hand) lash() api.Lash {
	return append(h.lashes[:len(h.lashes):len(h.lashes)], api.Lash{Eye: int(h.numbers[2])})[0]
}

func (h hand) shake() api.Shake {
	return append(h.shakes[:len(h.shakes):len(h.shakes)], api.Shake{X: h.numbers[0], Z: h.numbers[1]})[0]
}

// deal returns arguments of which many are at a limit, or beyond it.
func deal(r *rand.Rand) hand {
	number := func() int64 { return extremes[r.IntN(len(extremes))] }
	wild := func(l api.Load) api.Load {
		l = clone(l)
		p, y := &l.Pieces[r.IntN(len(l.Pieces))], &l.Eyes[r.IntN(len(l.Eyes))]
		numbers := []*int64{&p.X, &p.Y, &p.Z, &p.L, &p.W, &p.H, &p.Mass, &y.X, &y.Y, &y.Z, &y.Strength, &l.Friction}
		*numbers[r.IntN(len(numbers))] = number()
		return l
	}
	some := func() api.Load {
		l := anyLoad(r, 6, from(r, 1, side))
		loads := []api.Load{l, l, l, wild(l), wild(l), example(), {}, with(of(slices.Repeat([]api.Piece{block(0, 0, 0, 1, 1, 1, 1)}, 33)...))}
		return loads[r.IntN(len(loads))]
	}
	h := hand{a: some(), b: some(), numbers: [3]int64{number(), number(), number()}, n: pt(from(r, -9, 9), number()), s: exampleText}
	if len(h.a.Eyes) > 0 && load.Check(h.a) == api.OK {
		h.lashes = anyLashes(r, h.a, from(r, 0, 5), side)
	}
	if r.IntN(4) == 0 {
		h.lashes = append(h.lashes, api.Lash{Eye: int(number()), X: number(), Y: number(), Z: number(), Strength: number()})
	}
	for range r.IntN(4) {
		h.shakes = append(h.shakes, anyShake(r))
	}
	if r.IntN(4) == 0 {
		h.shakes = append(h.shakes, api.Shake{X: number(), Y: number(), Z: number()})
	}
	if r.IntN(2) == 0 {
		i := r.IntN(len(h.s))
		h.s = h.s[:i] + string("\n -0a9\xff"[r.IntN(7)]) + h.s[i:]
	}
	if r.IntN(2) == 0 {
		h.numbers[0] = from(r, -1, 6)
	}
	return h
}

// P1, R2, R5, R6, R10: each function ends and does not panic for all arguments; it changes none of them; it returns zero
// values with an error (but Hold, if the load slips), and the same if it is called again.
func TestAnyArguments(t *testing.T) {
	r := chance(16)
	for range 2000 {
		h := deal(r)
		for what, call := range calls() {
			before := h.clone()
			a := call(h)
			if shown(h) != shown(before) {
				t.Fatalf("%s has changed an argument", what)
			}
			if a.err != api.OK && !a.zero() && (what != "Hold" || a.err != api.ErrSlip) {
				t.Errorf("%s of %v: %v", what, before, a)
			}
			if again := call(before); !again.same(a) {
				t.Errorf("%s of %v: %v, and then %v", what, before, a, again)
			}
		}
	}
}

// All functions return the error of Check for a load, before all others.
func TestErrorOfCheckFirst(t *testing.T) {
	many := slices.Repeat([]api.Lash{{}}, 25)
	wild := hand{lashes: many, shakes: make([]api.Shake, 9), numbers: [3]int64{math.MinInt64, math.MinInt64, math.MinInt64}, s: strings.Repeat("x", 1<<15)}
	wild.shakes[0] = api.Shake{Z: -1}
	for _, x := range []struct {
		l    api.Load
		want api.Errno
	}{
		{api.Load{}, api.ErrMany},
		{rubbing(example(), -1), api.ErrArg},
		{of(block(0, 0, 0, 1, 1, 1, 0)), api.ErrArg},
	} {
		wild.a, wild.b = x.l, x.l
		for what, call := range calls() {
			if a := call(wild); what != "Parse" && (a.err != x.want || !a.zero()) {
				t.Errorf("%s of %v: %v", what, x.l, a)
			}
		}
	}
}

// R3: a nil list and an empty one are the same.
func TestNilIsEmpty(t *testing.T) {
	l := of(block(0, 0, 0, 1, 1, 1, 1))
	a := hand{a: l, b: l, n: pt(1, 0)}
	b := hand{a: with(l, []api.Eye{}...), b: with(l, []api.Eye{}...), n: pt(1, 0), lashes: []api.Lash{}, shakes: []api.Shake{}}
	b.a.Eyes, b.b.Eyes = []api.Eye{}, []api.Eye{}
	for what, call := range calls() {
		if x, y := call(a), call(b); !x.same(y) {
			t.Errorf("%s: %v with nil, %v with empty lists", what, x, y)
		}
	}
}

// R5: a result shares no memory with an argument, or with another result, also behind its end.
func TestResultsAreNewMemory(t *testing.T) {
	first, second := example(), of(block(0, 0, 0, 5, 5, 5, 5))
	first.Pieces, second.Pieces = slices.Grow(first.Pieces, 9), slices.Grow(second.Pieces, 9)
	first.Eyes, second.Eyes = slices.Grow(first.Eyes, 9), slices.Grow(second.Eyes, 9)
	for what, call := range map[string]func() (api.Load, api.Errno){
		"Turned by 0":  func() (api.Load, api.Errno) { return load.Turned(first, 0) },
		"Turned by 1":  func() (api.Load, api.Errno) { return load.Turned(first, 1) },
		"Shifted by 0": func() (api.Load, api.Errno) { return load.Shifted(first, 0, 0, 0) },
		"Joined":       func() (api.Load, api.Errno) { return load.Joined(first, second) },
		"Joined back":  func() (api.Load, api.Errno) { return load.Joined(second, first) },
		"Parse":        func() (api.Load, api.Errno) { return load.Parse(exampleText) },
	} {
		result, other := must[api.Load](t, what)(call()), must[api.Load](t, what)(call())
		kept, behind := clone(other), shown(first.Pieces[:cap(first.Pieces)])+shown(first.Eyes[:cap(first.Eyes)])
		clear(result.Pieces[:cap(result.Pieces)])
		clear(result.Eyes[:cap(result.Eyes)])
		checkLoad(t, what+": the other result", other, api.OK, kept, api.OK)
		checkLoad(t, what+": the argument", first, api.OK, example(), api.OK)
		if shown(first.Pieces[:cap(first.Pieces)])+shown(first.Eyes[:cap(first.Eyes)]) != behind {
			t.Errorf("%s: what is behind the argument has changed", what)
		}
	}
}
