package sweep_test

import (
	"math/rand/v2"
	"reflect"
	"slices"
	"testing"

	"gooseneck/api"
	"gooseneck/sweep"
)

// hand is arguments for any function of the package.
type hand struct {
	f       api.Family // with the rig and the obstacles of all functions
	way     []api.Pose
	margin  int64
	i       int
	lines   []api.Line
	hits    []api.Hit
	choices []int
}

func (h hand) clone() hand {
	h.f, h.way, h.lines, h.hits, h.choices = cloneFamily(h.f), slices.Clone(h.way), slices.Clone(h.lines), slices.Clone(h.hits), slices.Clone(h.choices)
	for i := range h.way {
		h.way[i] = clonePose(h.way[i])
	}
	for i := range h.hits {
		h.hits[i].Choices = slices.Clone(h.hits[i].Choices)
	}
	return h
}

// pose returns the first or the last pose of the way.
func (h hand) pose(i int) api.Pose {
	if len(h.way) == 0 {
		return api.Pose{}
	}
	return h.way[i*(len(h.way)-1)]
}

// answer is what a call returns.
type answer struct {
	values []any
	err    api.Errno
}

func answers(e api.Errno, values ...any) answer { return answer{values, e} }

func (a answer) same(b answer) bool { return shown(a) == shown(b) }

// zero reports whether all results but the error are zero values.
func (a answer) zero() bool {
	for _, v := range a.values {
		if shown(v) != shown(reflect.Zero(reflect.TypeOf(v))) {
			return false
		}
	}
	return true
}

// onRigs are the functions of the package that take a rig.
func onRigs() map[string]func(h hand) answer {
	return map[string]func(h hand) answer{
		"CheckRig": func(h hand) answer { return answers(sweep.CheckRig(h.f.Rig)) },
		"Corners":  func(h hand) answer { l, e := sweep.Corners(h.f.Rig, h.pose(0), h.i); return answers(e, l) },
		"Swept": func(h hand) answer {
			l, e := sweep.Swept(h.f.Rig, h.pose(0), h.pose(1), h.i)
			return answers(e, l)
		},
		"Heights": func(h hand) answer { a, b, e := sweep.Heights(h.f.Rig, h.i); return answers(e, a, b) },
		"Clearance": func(h hand) answer {
			n, e := sweep.Clearance(h.f.Rig, h.f.Obstacles, h.way)
			return answers(e, n)
		},
		"First": func(h hand) answer {
			hit, e := sweep.First(h.f.Rig, h.f.Obstacles, h.way, h.margin)
			return answers(e, hit)
		},
		"Lines": func(h hand) answer {
			l, e := sweep.Lines(h.f.Rig, h.f.Obstacles, h.way, h.margin)
			return answers(e, l)
		},
		"CheckLines": func(h hand) answer {
			return answers(sweep.CheckLines(h.f.Rig, h.f.Obstacles, h.way, h.margin, h.lines))
		},
	}
}

// calls are all functions of the package.
func calls() map[string]func(h hand) answer {
	all := onRigs()
	all["CheckObstacles"] = func(h hand) answer { return answers(sweep.CheckObstacles(h.f.Obstacles)) }
	all["Bodies"] = func(h hand) answer { l, e := sweep.Bodies(h.f.Rig.Vehicle, h.margin); return answers(e, l) }
	all["CheckFamily"] = func(h hand) answer { return answers(sweep.CheckFamily(h.f)) }
	all["Drive"] = func(h hand) answer { l, e := sweep.Drive(h.f, h.choices); return answers(e, l) }
	all["Try"] = func(h hand) answer { hit, ok, e := sweep.Try(h.f, h.choices); return answers(e, hit, ok) }
	all["Passable"] = func(h hand) answer { l, e := sweep.Passable(h.f); return answers(e, l) }
	all["Best"] = func(h hand) answer { l, n, e := sweep.Best(h.f); return answers(e, l, n) }
	all["Prove"] = func(h hand) answer { l, e := sweep.Prove(h.f); return answers(e, l) }
	all["CheckProof"] = func(h hand) answer { return answers(sweep.CheckProof(h.f, h.hits)) }
	return all
}

// deal returns arguments of which many are at a limit, or beyond it.
func deal(t *testing.T, r *rand.Rand) hand {
	h := hand{f: anyFamily(t, r), margin: from(r, 0, 500), i: r.IntN(2)}
	h.f.Rig.Shift, h.f.Rig.Lift = api.Point{}, 0
	for i := range h.f.Rig.Vehicle.Units {
		h.f.Rig.Vehicle.Units[i].Height = 3000
	}
	h.way = anyWay(t, r, h.f.Rig.Vehicle, 3, h.f.Start.Lead, 1000)
	h.choices = some(r, guidesOf(h.f)...)
	h.hits, _ = sweep.Prove(h.f)
	if r.IntN(2) == 0 {
		h.lines, _ = sweep.Lines(h.f.Rig, h.f.Obstacles, h.way, h.margin)
	}
	for range some(r, 0, 0, 1, 2, 5) {
		*some(r, h.numbers(r)...) = some(r, extremes...)
	}
	if r.IntN(5) == 0 {
		*some(r, h.ints(r)...) = int(some(r, extremes...))
	}
	if r.IntN(5) == 0 {
		change(&h, r.IntN(8))
	}
	return h
}

// numbers returns where a hand has numbers.
func (h *hand) numbers(r *rand.Rand) []*int64 {
	g := &h.f.Rig
	u, s := &g.Vehicle.Units[r.IntN(len(g.Vehicle.Units))], &g.Sections[r.IntN(len(g.Sections))]
	c, p := &h.f.Rows[0][r.IntN(len(h.f.Rows[0]))], &h.way[r.IntN(len(h.way))]
	l := []*int64{
		&h.margin, &h.f.Step, &h.f.Margin, &h.f.Start.Lead.X, &h.f.Start.Axles[0].Y, &c.To.X, &c.To.Y, &p.Lead.X, &p.Lead.Y, &p.Axles[0].X,
		&g.Lift, &g.Turn.C, &g.Turn.S, &g.Turn.N, &g.Shift.X, &g.Shift.Y, &s.Low, &s.High, &s.Hull[0].X, &s.Hull[0].Y,
		&u.Length, &u.Behind, &u.Front, &u.Width, &u.Height,
	}
	for i := range h.f.Obstacles {
		o := &h.f.Obstacles[i]
		l = append(l, &o.Low, &o.High, &o.Hull[0].X, &o.Hull[0].Y)
	}
	for i := range h.lines {
		l = append(l, &h.lines[i].X, &h.lines[i].Y, &h.lines[i].K)
	}
	return l
}

// ints returns where it has other numbers.
func (h *hand) ints(r *rand.Rand) []*int {
	g := &h.f.Rig
	l := []*int{&h.i, &h.choices[0], &g.Sections[r.IntN(len(g.Sections))].On, &g.Vehicle.From, &g.Vehicle.Units[0].Most}
	for i := range h.hits {
		l = append(l, &h.hits[i].Step, &h.hits[i].Section, &h.hits[i].Obstacle, &h.hits[i].Choices[0])
	}
	return l
}

// change takes something out of a hand.
func change(h *hand, what int) {
	switch what {
	case 0:
		h.f.Rig.Sections = nil
	case 1:
		h.f.Rig.Sections[0].Hull = nil
	case 2:
		h.f.Rows[0] = nil
	case 3:
		h.f.Rows = nil
	case 4:
		h.way = nil
	case 5:
		h.choices = nil
	case 6:
		h.f.Start.Axles = nil
	case 7:
		h.f.Rig.Vehicle.Units = nil
	}
}

// P1, R2, R5, R6, R10: each function ends and does not panic for all arguments; it changes none of them; it returns zero
// values with an error, and the same if it is called again.
func TestAnyArguments(t *testing.T) {
	r := chance(11)
	fine := map[string]int{}
	for range 3000 {
		h := deal(t, r)
		for what, call := range calls() {
			before := h.clone()
			a := call(h)
			if shown(h) != shown(before) {
				t.Fatalf("%s has changed an argument", what)
			}
			if a.err != api.OK && !a.zero() {
				t.Errorf("%s of %v: %v", what, before, a)
			}
			if a.err == api.OK {
				fine[what]++
			}
			if again := call(before); !again.same(a) {
				t.Errorf("%s of %v: %v, and then %v", what, before, a, again)
			}
		}
	}
	for what := range calls() {
		if fine[what] < 100 {
			t.Errorf("%s has ended without an error only %d times", what, fine[what])
		}
	}
}

// All functions with a rig return the error of CheckRig before all others.
func TestErrorOfCheckRigFirst(t *testing.T) {
	bad := hand{f: api.Family{Obstacles: make([]api.Obstacle, 65)}, way: make([]api.Pose, 2001), margin: -1, i: -1}
	for _, x := range []struct {
		r    api.Rig
		want api.Errno
	}{
		{rig(api.Vehicle{}, make([]api.Section, 25)...), api.ErrMany},
		{onRow(13), api.ErrMany},
		{api.Rig{}, api.ErrArg},
		{rig(row(1), section(1, 0, 0, pt(0, 0))), api.ErrArg},
	} {
		bad.f.Rig = x.r
		for what, call := range onRigs() {
			if a := call(bad); a.err != x.want || !a.zero() {
				t.Errorf("%s of %v: %v, want %d", what, x.r, a, x.want)
			}
		}
	}
}

// R3: a nil list and an empty one are the same.
func TestNilIsEmpty(t *testing.T) {
	fine := func() hand { return hand{f: simple(), way: forward(1, 0), choices: []int{0}} }
	for _, x := range []struct {
		what   string
		change func(h *hand, isNil bool)
	}{
		{"obstacles", func(h *hand, isNil bool) { h.f.Obstacles = empty[api.Obstacle](isNil) }},
		{"lines", func(h *hand, isNil bool) { h.lines = empty[api.Line](isNil) }},
		{"hits", func(h *hand, isNil bool) { h.hits = empty[api.Hit](isNil) }},
		{"choices of a hit", func(h *hand, isNil bool) { h.hits = []api.Hit{{Choices: empty[int](isNil)}} }},
		{"choices", func(h *hand, isNil bool) { h.choices = empty[int](isNil) }},
		{"steering", func(h *hand, isNil bool) { h.f.Rows[0][0].Steer = empty[int](isNil) }},
		{"a row", func(h *hand, isNil bool) { h.f.Rows[0] = empty[api.Choice](isNil) }},
		{"rows", func(h *hand, isNil bool) { h.f.Rows = empty[[]api.Choice](isNil) }},
		{"a way", func(h *hand, isNil bool) { h.way = empty[api.Pose](isNil) }},
		{"a pose", func(h *hand, isNil bool) { h.way[0].Axles = empty[api.Point](isNil) }},
		{"a start", func(h *hand, isNil bool) { h.f.Start.Axles = empty[api.Point](isNil) }},
		{"a hull", func(h *hand, isNil bool) { h.f.Rig.Sections[0].Hull = empty[api.Point](isNil) }},
		{"a hull of an obstacle", func(h *hand, isNil bool) { h.f.Obstacles[0].Hull = empty[api.Point](isNil) }},
		{"sections", func(h *hand, isNil bool) { h.f.Rig.Sections = empty[api.Section](isNil) }},
		{"axles", func(h *hand, isNil bool) { h.f.Rig.Vehicle.Units[0].Axles = empty[api.Axle](isNil) }},
		{"units", func(h *hand, isNil bool) { h.f.Rig.Vehicle.Units = empty[api.Unit](isNil) }},
	} {
		a, b := fine(), fine()
		x.change(&a, true)
		x.change(&b, false)
		for name, call := range calls() {
			if p, q := call(a), call(b); !p.same(q) {
				t.Errorf("%s with %s: %v with nil, %v with an empty list", name, x.what, p, q)
			}
		}
	}
}

func empty[T any](isNil bool) []T {
	if isNil {
		return nil
	}
	return []T{}
}

// shared reports whether two lists share memory, also behind their ends.
func shared[T any](a, b []T) bool {
	a, b = a[:cap(a)], b[:cap(b)]
	for i := range a {
		for k := range b {
			if &a[i] == &b[k] {
				return true
			}
		}
	}
	return false
}

// R5: a result shares no memory with an argument, or with another list of a result.
func TestResultsAreNewMemory(t *testing.T) {
	f := towards(0, []int64{100, 200}, []int64{100, 200})
	g := []int{0, 1}
	way := must[[]api.Pose](t, "Drive")(sweep.Drive(f, g))
	for i, p := range way {
		if shared(p.Axles, f.Start.Axles) || shared(p.Axles, way[(i+1)%len(way)].Axles) {
			t.Error("Drive shares memory")
		}
	}
	passable := must[[][]int](t, "Passable")(sweep.Passable(f))
	for i, p := range passable {
		for _, q := range passable[:i] {
			if shared(p, q) {
				t.Error("Passable shares memory")
			}
		}
	}
	f.Margin = 4900
	hits := must[[]api.Hit](t, "Prove")(sweep.Prove(f))
	for i, p := range hits {
		for _, q := range hits[:i] {
			if shared(p.Choices, q.Choices) {
				t.Error("Prove shares memory")
			}
		}
	}
	hit, isFree, e := sweep.Try(f, g)
	if isFree || e != api.OK || shared(hit.Choices, g) {
		t.Errorf("Try shares memory: %v, %v, %d", hit, isFree, e)
	}
	corners := must[[]api.Point](t, "Corners")(sweep.Corners(f.Rig, f.Start, 0))
	swept := must[[]api.Point](t, "Swept")(sweep.Swept(f.Rig, f.Start, f.Start, 0))
	if shared(corners, f.Rig.Sections[0].Hull) || shared(swept, f.Rig.Sections[0].Hull) {
		t.Error("Corners or Swept share memory")
	}
	bodies := must[[]api.Section](t, "Bodies")(sweep.Bodies(row(2), 0))
	if shared(bodies[0].Hull, bodies[1].Hull) {
		t.Error("Bodies shares memory")
	}
}
