package convoy_test

import (
	"reflect"
	"slices"
	"testing"

	"gooseneck/api"
	"gooseneck/convoy"
)

// answer is what a call returns.
type answer struct {
	value any
	err   api.Errno
}

func of[T any](value T, e api.Errno) answer { return answer{value, e} }

// zero reports whether the result beside the error is a zero value.
func (a answer) zero() bool { return shown(a.value) == shown(reflect.Zero(reflect.TypeOf(a.value))) }

// hand is arguments for any function of the package.
type hand struct {
	l     []api.Authority
	t     api.Trip
	asked int64
	plan  []api.Crossing
	r     api.Report
	left  []api.Crossing
	guide []api.Point
	p     api.Point
	most  int64
	fixes []api.Fix
}

func (h hand) clone() hand {
	h.l, h.t, h.plan, h.left = cloneAll(h.l), cloneTrip(h.t), clonePlan(h.plan), clonePlan(h.left)
	h.guide, h.fixes = slices.Clone(h.guide), slices.Clone(h.fixes)
	return h
}

// made is what New returns: all that the convoy tells of itself.
func made(h hand) answer {
	c, e := convoy.New(h.l, h.t, h.asked, h.plan)
	if (c == nil) != (e != api.OK) {
		return answer{"a convoy with an error", e}
	}
	return answer{stateOf(c), e}
}

// calls are the functions of the package that return an error.
func calls() map[string]func(c *convoy.Convoy, h hand) answer {
	return map[string]func(c *convoy.Convoy, h hand) answer{
		"New":    func(_ *convoy.Convoy, h hand) answer { return made(h) },
		"Report": func(c *convoy.Convoy, h hand) answer { return of(c.Report(h.r)) },
		"Replan": func(c *convoy.Convoy, h hand) answer { return of(replan(c)) },
		"Adopt":  func(c *convoy.Convoy, h hand) answer { return of(c.Adopt(h.left)) },
		"Off":    func(_ *convoy.Convoy, h hand) answer { return of(off(h.guide, h.p)) },
		"Track":  func(_ *convoy.Convoy, h hand) answer { return of(convoy.Track(h.guide, h.most, h.fixes)) },
	}
}

// P1, R2, R5, R6, R10: each function ends and does not panic for all arguments; it changes none of them, and with an error
// not the convoy either; it returns zero values with an error, but the numbers that the chapter names; and the same if it is
// called again.
func TestAnyArguments(t *testing.T) {
	r := chance(8)
	fine, wrong := map[string]int{}, map[string]int{}
	for range 1000 {
		c, m := anyConvoy(t, r)
		drive(r, c, m)
		h := hand{r: anyReport(r, m), left: anyAdoption(r, c, m), guide: anyGuide(r), most: from(r, 0, 40)}
		h.l, h.t, h.plan = anyPlan(r)
		h.p = h.guide[0]
		for i, p := range h.guide {
			h.fixes = append(h.fixes, api.Fix{At: int64(i), P: p})
		}
		numbers := []*int64{
			&h.r.At, &h.r.N, &h.r.From, &h.r.To, &h.asked, &h.plan[0].Start, &h.guide[0].X, &h.guide[1].Y, &h.p.X, &h.p.Y, &h.most,
			&h.fixes[0].At, &h.fixes[1].P.X, &h.t.Sizes[0], &h.t.Passages[0].Minutes, &h.l[0].Notice,
		}
		for range r.IntN(6) {
			*pick(r, numbers...) = pick(r, extremes...)
		}
		if r.IntN(10) == 0 {
			h.r.Kind = int(pick(r, extremes...))
		}
		for what, call := range calls() {
			before, kept, again := h.clone(), stateOf(c), c.Copy()
			a := call(c, h)
			checkSame(t, "the arguments behind "+what, h, before)
			if a.err != api.OK {
				checkSame(t, "the convoy behind "+what, stateOf(c), kept)
				hasNumber := what == "Replan" || what == "Adopt" || what == "Track"
				if p, is := a.value.(proposal); !hasNumber && !a.zero() || is && len(p.Plan) > 0 {
					t.Errorf("%s of %v: %v", what, h, a)
				}
				wrong[what]++
			} else {
				fine[what]++
			}
			checkSame(t, what+" once more", call(again, h), a)
			checkSame(t, "the copy behind "+what, stateOf(again), stateOf(c))
		}
	}
	for what := range calls() {
		if fine[what] < 100 || wrong[what] < 20 && what != "Replan" {
			t.Errorf("%s has ended %d times without an error, and %d times with one", what, fine[what], wrong[what])
		}
	}
}

// R4: what is nil, or was made otherwise, is not valid.
func TestNotValid(t *testing.T) {
	c := start(t, under(), over(60, "x", "y"), planOf(some("b", 1), 0, 60))
	tell(t, c, begin(5))
	copied, over := *c, *c
	d := c.Copy()
	*d = over
	before := stateOf(c)
	for what, x := range map[string]*convoy.Convoy{"nil": nil, "a new one": new(convoy.Convoy), "one that is empty": {}, "one that was copied": &copied, "one that was replaced": d} {
		checkSame(t, what, stateOf(x), state{})
		if x.Copy() != nil {
			t.Errorf("%s: there is a copy", what)
		}
		for _, r := range []api.Report{nothing(5), end(65), {}, nothing(-1)} {
			got, e := x.Report(r)
			check(t, what+": Report", got, e, nil, api.ErrNil)
		}
		for _, plan := range [][]api.Crossing{nil, planOf(nil, 65), planOf(nil, -1, 0)} {
			n, e := x.Adopt(plan)
			check(t, what+": Adopt", n, e, 0, api.ErrNil)
		}
		p, e := replan(x)
		check(t, what+": Replan", p, e, proposal{}, api.ErrNil)
		checkSame(t, what, stateOf(x), state{})
	}
	checkSame(t, "the convoy", stateOf(c), before)
	tell(t, c, end(65))
	checkSame(t, "Next", c.Next(), 1)
}

// R3: a nil list and an empty one are the same.
func TestNilIsEmpty(t *testing.T) {
	none := hand{t: over(60, "x"), l: under(), plan: planOf(nil, 0), left: planOf(nil, 0), guide: corner()}
	for _, x := range []struct {
		what        string
		none, empty func(h *hand)
	}{
		{"authorities", func(h *hand) { h.l = nil }, func(h *hand) { h.l = []api.Authority{} }},
		{"rules", func(h *hand) { h.l[0].Rules = nil }, func(h *hand) { h.l[0].Rules = []api.Rule{} }},
		{"passages", func(h *hand) { h.t.Passages = nil }, func(h *hand) { h.t.Passages = []api.Passage{} }},
		{"crossings", func(h *hand) { h.plan, h.left = nil, nil }, func(h *hand) { h.plan, h.left = []api.Crossing{}, []api.Crossing{} }},
		{"things", func(h *hand) { h.plan[0].Things, h.left[0].Things = nil, nil }, func(h *hand) { h.plan[0].Things, h.left[0].Things = []api.Count{}, []api.Count{} }},
		{"points", func(h *hand) { h.guide = nil }, func(h *hand) { h.guide = []api.Point{} }},
		{"fixes", func(h *hand) { h.fixes = nil }, func(h *hand) { h.fixes = []api.Fix{} }},
	} {
		p, q := none.clone(), none.clone()
		x.none(&p)
		x.empty(&q)
		for name, call := range calls() {
			c, d := start(t, under(), over(60, "x"), planOf(nil, 0)), start(t, under(), over(60, "x"), planOf([]api.Count{}, 0))
			checkSame(t, name+" of empty "+x.what, call(d, q), call(c, p))
			checkSame(t, "behind "+name+" of empty "+x.what, stateOf(d), stateOf(c))
		}
	}
}

// full returns a convoy that has something in all of its lists, and what it was made of.
func full(t *testing.T) (*convoy.Convoy, hand) {
	h := hand{
		l: under(rule(roads("x", "y"), hours(0, 720), count("b", 1, 2), count("c", 0, 9)), rule(count("d", 0, 0)), rule(forbid)),
		t: over(60, "x", "y", "x"), plan: planOf(some("b", 1, "c", 1), 0, 60, 120),
	}
	h.l[0].Rules[2].Whens = []api.When{{Size: 0, Least: 1}}
	c := start(t, h.l, h.t, h.plan)
	tell(t, c, thing(0, "d", 1), shut(0, "x", 0, 10), begin(1), end(800), thing(800, "d", 0))
	return c, h
}

// R5: nothing keeps a reference to an argument.
func TestArgumentsAreNotKept(t *testing.T) {
	c, h := full(t)
	like := c.Copy()
	spoil(reflect.ValueOf(&h.l).Elem())
	spoil(reflect.ValueOf(&h.t).Elem())
	spoil(reflect.ValueOf(&h.plan).Elem())
	checkSame(t, "the convoy", stateOf(c), stateOf(like))
	plan := planOf(some("b", 1, "c", 1), day, day+60)
	if n, e := c.Adopt(plan); n != 1 || e != api.OK {
		t.Fatalf("Adopt: %d, %d", n, e)
	}
	kept := clonePlan(plan)
	spoil(reflect.ValueOf(&plan).Elem())
	checkSame(t, "Plan", c.Plan()[1:], kept)
	tell(t, c, begin(day))
	got, e := c.Report(end(day + 721))
	check(t, "the rules are there", got, e, []api.Deviation{deviation(6, 1, api.DeviateSlow, 661), deviation(6, 1, api.DeviateRule, 0, 2)}, api.OK)
}

// R5: a result shares no memory with the convoy, or with another result.
func TestResultsAreNewMemory(t *testing.T) {
	c, _ := full(t)
	had := len(c.Deviations())
	d, e := c.Report(begin(810))
	want := []api.Deviation{deviation(5, 1, api.DeviateLate, 750), deviation(5, 1, api.DeviateRule, 0, 2)}
	check(t, "Report", d, e, want, api.OK)
	spoil(reflect.ValueOf(&d).Elem())
	checkSame(t, "Deviations", c.Deviations()[had:], want)
	before := stateOf(c)
	for what, give := range map[string]func() any{
		"Things":     func() any { return new(c.Things()) },
		"Plan":       func() any { return new(c.Plan()) },
		"Deviations": func() any { return new(c.Deviations()) },
		"Replan": func() any {
			p, _ := replan(c)
			return &p
		},
	} {
		one, other := give(), give()
		like := shown(reflect.ValueOf(other).Elem())
		spoil(reflect.ValueOf(one).Elem())
		checkSame(t, "another result of "+what, reflect.ValueOf(other).Elem(), like)
		checkSame(t, "the convoy behind a result of "+what, stateOf(c), before)
	}
}

// R5: no two lists of a result share memory, also behind their ends.
func TestListsAreApart(t *testing.T) {
	c, _ := full(t)
	tell(t, c, begin(810), end(811))
	plan, all := c.Plan(), c.Deviations()
	_, left, e := c.Replan()
	check(t, "Replan", len(left), e, 1, api.OK)
	tell(t, c, nothing(812))
	d := start(t, under(), over(60, "x", "y", "x"), planOf(some("b", 1), 0, 60, 120))
	_, more, _ := d.Replan()
	for _, l := range [][]api.Crossing{plan, left, more} {
		want := clonePlan(l)
		for i := range l {
			l[i].Things = append(l[i].Things, api.Count{Thing: "new"})
			want[i].Things = append(want[i].Things, api.Count{Thing: "new"})
			l[i].Things[0].Least = int64(i)
			want[i].Things[0].Least = int64(i)
		}
		checkSame(t, "a plan", l, want)
	}
	for i := range all {
		all[i].Conditions = append(all[i].Conditions, -i)
	}
	for i := range all {
		if n := len(all[i].Conditions); n == 0 || all[i].Conditions[n-1] != -i {
			t.Errorf("the conditions of the deviation %d are those of another one: %v", i, all)
		}
	}
}
