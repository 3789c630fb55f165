package chain_test

import (
	"fmt"
	"math"
	"math/rand/v2"
	"reflect"
	"slices"
	"strings"
	"testing"

	"gooseneck/api"
	"gooseneck/chain"
)

// hand is arguments for any function of the package.
type hand struct {
	v       api.Vehicle
	p       api.Pose
	points  [2]api.Point
	guide   []api.Point
	numbers [2]int64
	unit    int
	steer   []int
	steers  [][]int
	s       string
}

func (h hand) clone() hand {
	h.v, h.guide, h.steer = clone(h.v), slices.Clone(h.guide), slices.Clone(h.steer)
	h.p.Axles = slices.Clone(h.p.Axles)
	h.steers = slices.Clone(h.steers)
	for i := range h.steers {
		h.steers[i] = slices.Clone(h.steers[i])
	}
	return h
}

// shown is a value as a text; a nil list and an empty one have the same.
func shown(x any) string { return fmt.Sprintf("%v", x) }

// answer is what a call returns.
type answer struct {
	values []any
	err    api.Errno
}

func answers(e api.Errno, values ...any) answer { return answer{values, e} }

func (a answer) same(b answer) bool { return shown(a) == shown(b) }

// zero reports whether all results but the error are zero values.
func (a answer) zero() bool {
	for _, v := range a.values {
		if shown(v) != shown(reflect.Zero(reflect.TypeOf(v))) {
			return false
		}
	}
	return true
}

// calls are all functions of the package.
func calls() map[string]func(h hand) answer {
	return map[string]func(h hand) answer{
		"Check":     func(h hand) answer { return answers(chain.Check(h.v)) },
		"Text":      func(h hand) answer { s, e := chain.Text(h.v); return answers(e, s) },
		"Parse":     func(h hand) answer { v, e := chain.Parse(h.s); return answers(e, v) },
		"Length":    func(h hand) answer { n, e := chain.Length(h.v); return answers(e, n) },
		"Mass":      func(h hand) answer { n, e := chain.Mass(h.v); return answers(e, n) },
		"Pulled":    func(h hand) answer { n, e := chain.Pulled(h.v, h.unit); return answers(e, n) },
		"Straight":  func(h hand) answer { p, e := chain.Straight(h.v, h.points[0], h.points[1]); return answers(e, p) },
		"CheckPose": func(h hand) answer { return answers(chain.CheckPose(h.v, h.p)) },
		"Joint":     func(h hand) answer { p, e := chain.Joint(h.v, h.p, h.unit); return answers(e, p) },
		"Place": func(h hand) answer {
			p, e := chain.Place(h.v, h.p, h.unit, h.numbers[0], h.numbers[1])
			return answers(e, p)
		},
		"Step":     func(h hand) answer { p, e := chain.Step(h.v, h.p, h.points[0], h.steer); return answers(e, p) },
		"Back":     func(h hand) answer { p, e := chain.Back(h.v, h.p, h.points[0], h.steer); return answers(e, p) },
		"Body":     func(h hand) answer { l, e := chain.Body(h.v, h.p, h.unit); return answers(e, l) },
		"LoadLine": func(h hand) answer { a, b, e := chain.LoadLine(h.v, h.p); return answers(e, a, b) },
		"Folded":   func(h hand) answer { f, e := chain.Folded(h.v, h.p); return answers(e, f) },
		"Follow": func(h hand) answer {
			l, e := chain.Follow(h.v, h.p, h.guide, h.numbers[0], h.numbers[1], h.steers)
			return answers(e, l)
		},
	}
}

// wild returns a vehicle with one number that is another one.
func wild(r *rand.Rand, v api.Vehicle) api.Vehicle {
	v = clone(v)
	u := &v.Units[r.IntN(len(v.Units))]
	a := &u.Axles[r.IntN(len(u.Axles))]
	numbers := []*int64{&u.Length, &u.Behind, &u.Front, &u.Rear, &u.Width, &u.Height, &u.Mass, &u.Steer, &a.X, &a.Limit}
	ints := []*int{&v.From, &v.To, &u.Kind, &u.Most, &a.Wheels}
	n := extremes[r.IntN(len(extremes))]
	if i := r.IntN(len(numbers) + len(ints)); i < len(numbers) {
		*numbers[i] = n
	} else {
		*ints[i-len(numbers)] = int(n)
	}
	return v
}

// deal returns arguments of which many are at a limit, or beyond it.
func deal(t *testing.T, r *rand.Rand) hand {
	number := func() int64 { return extremes[r.IntN(len(extremes))] }
	v := anyVehicle(r, 4, from(r, 100, size))
	if r.IntN(2) == 0 {
		v = backed(r, v, size)
	}
	h := hand{v: v, p: anyPose(t, r, v, far), unit: r.IntN(6) - 1, steer: anySteer(r, v), s: exampleText}
	h.points = [2]api.Point{near(r, h.p.Lead, 10), near(r, h.p.Lead, 10)}
	h.numbers = [2]int64{from(r, 0, 3), from(r, 1, 5000)}
	h.guide = []api.Point{h.points[0], h.points[1], near(r, h.p.Lead, 500)}
	if r.IntN(3) == 0 {
		h.v = []api.Vehicle{wild(r, v), wild(r, v), example(), {}, row(13)}[r.IntN(5)]
	}
	if r.IntN(5) == 0 && len(h.p.Axles) > 0 {
		h.p.Axles[r.IntN(len(h.p.Axles))] = []api.Point{pt(number(), 3), h.p.Lead}[r.IntN(2)]
	}
	if r.IntN(4) == 0 {
		h.points[r.IntN(2)] = pt(number(), number())
		h.guide[r.IntN(3)] = []api.Point{pt(number(), number()), h.p.Axles[0]}[r.IntN(2)]
	}
	if r.IntN(3) == 0 {
		h.numbers, h.unit = [2]int64{number(), number()}, int(number())
	}
	if r.IntN(4) == 0 {
		h.steer[r.IntN(len(h.steer))] = int(number())
		h.steers = [][]int{h.steer, {int(number())}, nil}[:r.IntN(4)]
	}
	if r.IntN(2) == 0 {
		i := r.IntN(len(h.s))
		h.s = h.s[:i] + string("\n -0a9\xff"[r.IntN(7)]) + h.s[i:]
	}
	return h
}

// P1, R2, R5, R6, R10: each function ends and does not panic for all arguments; it changes none of them; it returns zero
// values with an error, and the same if it is called again.
func TestAnyArguments(t *testing.T) {
	r := chance(12)
	fine := map[string]int{}
	for range 3000 {
		h := deal(t, r)
		for what, call := range calls() {
			before := h.clone()
			a := call(h)
			if shown(h) != shown(before) {
				t.Fatalf("%s has changed an argument", what)
			}
			if a.err != api.OK && !a.zero() {
				t.Errorf("%s of %v: %v", what, before, a)
			}
			if a.err == api.OK {
				fine[what]++
			}
			if again := call(before); !again.same(a) {
				t.Errorf("%s of %v: %v, and then %v", what, before, a, again)
			}
		}
	}
	for what := range calls() {
		if fine[what] < 100 {
			t.Errorf("%s has ended without an error only %d times", what, fine[what])
		}
	}
}

// All functions return the error of Check for a vehicle, before all others; then that of a pose, and of a unit.
func TestErrorsThatComeFirst(t *testing.T) {
	last := hand{points: [2]api.Point{pt(far+1, 0), pt(far+1, 0)}, guide: make([]api.Point, 257), numbers: [2]int64{math.MinInt64, math.MaxInt64}, unit: -1}
	last.s, last.steers = strings.Repeat("x", 1<<17), [][]int{nil, {99}}
	for _, x := range []struct {
		what string
		v    api.Vehicle
		p    api.Pose
		want api.Errno
		but  string
	}{
		{"no vehicle", api.Vehicle{}, api.Pose{}, api.ErrArg, "Parse"},
		{"too many units", row(13), api.Pose{}, api.ErrMany, "Parse"},
		{"a vehicle that is not valid", loaded(row(2), 1, 0), pose(0, 0, -3000, 0, -7000, 0), api.ErrArg, "Parse"},
		{"no pose", example(), api.Pose{}, api.ErrRange, "Parse Check Text Length Mass Straight"},
		{"a pose of another vehicle", example(), pose(0, 0, -1, 0), api.ErrRange, "Parse Check Text Length Mass Straight"},
	} {
		last.v, last.p = x.v, x.p
		for what, call := range calls() {
			if a := call(last); !slices.Contains(strings.Fields(x.but), what) && (a.err != x.want || !a.zero()) {
				t.Errorf("%s with %s: %v, want %d", what, x.what, a, x.want)
			}
		}
	}
}

// R3: a nil list and an empty one are the same.
func TestNilIsEmpty(t *testing.T) {
	unlike := func(what string, a, b hand) {
		for name, call := range calls() {
			if x, y := call(a), call(b); !x.same(y) {
				t.Errorf("%s with %s: %v with nil, %v with an empty list", name, what, x, y)
			}
		}
	}
	a := hand{v: example(), p: examplePose(), points: [2]api.Point{pt(1, 0), pt(0, 0)}, numbers: [2]int64{0, 1}, guide: pts(1, 0)}
	b := a.clone()
	b.steer, b.steers = []int{}, [][]int{}
	unlike("steering", a, b)
	a.steers, b.steers = [][]int{nil}, [][]int{{}}
	unlike("steering of a step", a, b)
	a.guide, b.guide = nil, []api.Point{}
	unlike("a guide", a, b)
	a.p.Axles, b.p.Axles = nil, []api.Point{}
	unlike("a pose", a, b)
	a.v.Units[1].Axles, b.v.Units[1].Axles = nil, []api.Axle{}
	unlike("axles", a, b)
	a.v.Units, b.v.Units = nil, []api.Unit{}
	unlike("units", a, b)
}

// R5: a result shares no memory with an argument, or with another result, also behind its end.
func TestResultsAreNewMemory(t *testing.T) {
	v := row(3)
	p := straight(t, v, pt(0, 0), pt(-1, 0))
	p.Axles = slices.Grow(p.Axles, 9)
	kept, none := shown(p.Axles[:cap(p.Axles)]), []int{0, 0, 0}
	for what, call := range map[string]func() (api.Pose, api.Errno){
		"Straight":            func() (api.Pose, api.Errno) { return chain.Straight(v, pt(0, 0), pt(-1, 0)) },
		"Step to the lead":    func() (api.Pose, api.Errno) { return chain.Step(v, p, pt(0, 0), none) },
		"Back to the tail":    func() (api.Pose, api.Errno) { return chain.Back(v, p, pt(-12000, 0), none) },
		"a Body":              func() (api.Pose, api.Errno) { l, e := chain.Body(v, p, 1); return api.Pose{Axles: l}, e },
		"the last of Follow":  func() (api.Pose, api.Errno) { l, e := follow(v, p); return l[2], e },
		"the first of Follow": func() (api.Pose, api.Errno) { l, e := follow(v, p); return l[0], e },
	} {
		result, other := must[api.Pose](t, what)(call()), must[api.Pose](t, what)(call())
		before := shown(other)
		clear(result.Axles[:cap(result.Axles)])
		if shown(other) != before || shown(p.Axles[:cap(p.Axles)]) != kept {
			t.Errorf("%s shares memory", what)
		}
	}
	l, e := follow(v, p)
	checkErr(t, "Follow", e, api.OK)
	for i := range l {
		before := l[(i+1)%len(l)]
		before.Axles = slices.Clone(before.Axles)
		clear(l[i].Axles[:cap(l[i].Axles)])
		if !samePose(l[(i+1)%len(l)], before) {
			t.Errorf("the poses of Follow share memory")
		}
	}
	a, b := must[api.Vehicle](t, "Parse")(chain.Parse(exampleText)), must[api.Vehicle](t, "Parse")(chain.Parse(exampleText))
	clear(a.Units[0].Axles[:cap(a.Units[0].Axles)])
	checkVehicle(t, "Parse: the other unit", api.Vehicle{Units: a.Units[1:]}, api.OK, api.Vehicle{Units: example().Units[1:]}, api.OK)
	clear(a.Units[:cap(a.Units)])
	checkVehicle(t, "Parse: the other result", b, api.OK, example(), api.OK)
}

func follow(v api.Vehicle, p api.Pose) ([]api.Pose, api.Errno) {
	return chain.Follow(v, p, pts(0, 0, 200, 0), 0, 100, nil)
}
