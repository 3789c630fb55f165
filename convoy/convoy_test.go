package convoy_test

import (
	"slices"
	"testing"

	"gooseneck/api"
	"gooseneck/convoy"
)

// county is the authority of layer 8's examples, and twice the trip of them over a1.
func county() ([]api.Authority, api.Trip) {
	l := []api.Authority{{Name: "county", Fee: 120, Notice: 2880, Rules: []api.Rule{
		{
			Name: "night", Roads: []string{"a1"}, Whens: []api.When{{Size: api.MeasureWidth, Least: 3500}},
			Hours: [2]int64{1320, 360}, Days: 127, Counts: []api.Count{{Thing: "escort", Least: 1, Most: 10}}, Cost: 30,
		},
		{
			Name: "day", Roads: []string{"a1"}, Whens: []api.When{{Size: api.MeasureWeight, Least: 60000}},
			Hours: [2]int64{360, 1200}, Days: 31,
		},
	}}}
	p := api.Passage{Authority: "county", Road: "a1", Minutes: 90}
	return l, api.Trip{Sizes: [6]int64{4200, 4000, 40000, 9000, 30000, 15000}, Passages: []api.Passage{p, p}}
}

// P10.1, P10.2, P10.3, P10.4: the examples of the chapter.
func TestExamples(t *testing.T) {
	l, trip := county()
	escort := some("escort", 1)
	c := start(t, l, trip, planOf(escort, 4200, 4290))
	report := func(what string, r api.Report, want ...api.Deviation) {
		t.Helper()
		d, e := c.Report(r)
		check(t, what, d, e, want, api.OK)
	}
	replans := func(want proposal, wantErr api.Errno) {
		t.Helper()
		p, e := replan(c)
		check(t, "Replan", p, e, want, wantErr)
	}
	report("begin", begin(4200))
	report("hold", hold(4250, 30))
	checkSame(t, "Free", c.Free(), 4320)
	replans(proposal{1, planOf(escort, 4320)}, api.OK)
	report("end", end(4325), deviation(2, 0, api.DeviateSlow, 5))
	checkSame(t, "Free", c.Free(), 4325)
	replans(proposal{1, planOf(escort, 4325)}, api.OK)
	report("close", shut(4325, "a1", 4400, 4600))
	replans(proposal{1, planOf(escort, 5640)}, api.OK)
	report("thing", thing(4325, "escort", 0))
	replans(proposal{Passage: 1}, api.ErrRule)
}

// P10.1, P10.3: a convoy that has just been made.
func TestNew(t *testing.T) {
	plan := planOf(some("b", 1, "c", 0), 2880, 3100, 4000)
	plan[0].Things[0].Most, plan[1].Things = -7, some("d", 3)
	c := start(t, under(rule(count("d", 0, 5))), over(60, "x", "y", "x"), plan)
	checkSame(t, "all", stateOf(c), state{Things: some("b", 1, "c", 0), Plan: plan})
	if c.Things()[0].Most != 0 || c.Plan()[0].Things[0].Most != -7 {
		t.Errorf("%v, %v: Most of things is 0, that of the plan remains", c.Things(), c.Plan())
	}
	if d, e := c.Report(begin(2880)); e != api.OK || len(d) > 0 {
		t.Errorf("begun as planned: %v, %d", d, e)
	}
}

// P10.1, P10.3: of several numbers of a thing the first one is how many there are.
func TestThingsThatAreTwiceInThePlan(t *testing.T) {
	l := under(rule(count("b", 2, 2)))
	c := start(t, l, over(60, "x", "x"), planOf(some("c", 1, "b", 2, "b", 5, "c", 0, "c", 1), 0, 60))
	checkSame(t, "Things", c.Things(), some("c", 1, "b", 2))
	d, e := c.Report(begin(0))
	check(t, "begin", d, e, nil, api.OK)
	tell(t, c, thing(0, "b", 5), thing(0, "d", 1), thing(0, "e", 1), thing(0, "f", 1), thing(0, "g", 1))
	checkSame(t, "Things", c.Things(), some("c", 1, "b", 5, "d", 1, "e", 1, "f", 1, "g", 1))
}

// P10.1: New returns the error of Trips.
func TestNewErrors(t *testing.T) {
	l := under(rule(hours(100, 400)), rule(count("b", 1, 2)))
	l[0].Notice = 50
	trip := over(60, "x", "x")
	escort := some("b", 1)
	other := cloneTrip(trip)
	other.Passages[1].Authority = "b"
	far := cloneTrip(trip)
	far.Sizes[2] = -1
	many := planOf(slices.Repeat(escort, 7), 100, 160)
	for _, x := range []struct {
		what  string
		l     []api.Authority
		t     api.Trip
		asked int64
		plan  []api.Crossing
		want  api.Errno
	}{
		{"all right", l, trip, 50, planOf(escort, 100, 160), api.OK},
		{"asked too late", l, trip, 51, planOf(escort, 100, 160), api.ErrLate},
		{"one before the other has ended", l, trip, 0, planOf(escort, 100, 159), api.ErrLate},
		{"too early in the day", l, trip, 0, planOf(escort, 99, 160), api.ErrRule},
		{"too late in the day", l, trip, 0, planOf(escort, 100, 341), api.ErrRule},
		{"no things", l, trip, 0, planOf(nil, 100, 160), api.ErrRule},
		{"7 things", l, trip, 0, many, api.ErrMany},
		{"a thing without a name", l, trip, 0, planOf(some("", 1), 100, 160), api.ErrArg},
		{"a start below 0", l, trip, 0, planOf(escort, -1, 160), api.ErrRange},
		{"asked below 0", l, trip, -1, planOf(escort, 100, 160), api.ErrRange},
		{"asked too great", l, trip, greatest + 1, planOf(escort, 100, 160), api.ErrRange},
		{"no plan", l, trip, 0, nil, api.ErrEqual},
		{"a crossing too many", l, trip, 0, planOf(escort, 100, 160, 220), api.ErrEqual},
		{"no authorities", nil, trip, 0, planOf(escort, 100, 160), api.ErrMany},
		{"no passages", l, api.Trip{}, 0, nil, api.ErrMany},
		{"an authority twice", append(l, l...), trip, 0, planOf(escort, 100, 160), api.ErrHave},
		{"an authority that there is not", l, other, 0, planOf(escort, 100, 160), api.ErrNone},
		{"a size below 0", l, far, 0, planOf(escort, 100, 160), api.ErrArg},
	} {
		c, e := convoy.New(x.l, x.t, x.asked, x.plan)
		if e != x.want || (c == nil) != (e != api.OK) {
			t.Errorf("%s: %v, %d, want %d", x.what, c, e, x.want)
		}
	}
}

// P10.3: what a convoy tells of itself, report by report.
func TestOnTheWay(t *testing.T) {
	plan := planOf(nil, 100, 200)
	c := start(t, under(rule()), over(60, "x", "y"), plan)
	want := state{Plan: plan}
	for _, x := range []struct {
		r      api.Report
		change func()
	}{
		{nothing(90), func() { want.Time, want.Free = 90, 90 }},
		{begin(100), func() { want.Time, want.Free, want.Moving = 100, 160, true }},
		{thing(130, "c", 4), func() { want.Time, want.Things = 130, some("c", 4) }},
		{thing(140, "b", 1), func() { want.Time, want.Things = 140, some("c", 4, "b", 1) }},
		{thing(140, "c", 0), func() { want.Things = some("c", 0, "b", 1) }},
		{hold(150, 7), func() { want.Time, want.Free = 150, 167 }},
		{hold(150, 1), func() { want.Free = 168 }},
		{nothing(167), func() { want.Time = 167 }},
		{nothing(170), func() { want.Time, want.Free = 170, 170 }},
		{end(171), func() {
			want.Time, want.Free, want.Moving, want.Next = 171, 171, false, 1
			want.Deviations = append(want.Deviations, deviation(9, 0, api.DeviateSlow, 3))
		}},
		{hold(180, 50), func() { want.Time, want.Free = 180, 230 }},
		{hold(185, 45), func() { want.Time = 185 }},
		{hold(185, 30), func() {}},
		{shut(186, "y", 0, 10), func() { want.Time = 186 }},
		{begin(190), func() {
			want.Time, want.Free, want.Moving = 190, 250, true
			want.Deviations = append(want.Deviations, deviation(14, 1, api.DeviateEarly, 10))
		}},
		{end(250), func() { want.Time, want.Moving, want.Next, want.Done = 250, false, 2, true }},
		{hold(260, 10080), func() { want.Time, want.Free = 260, 10340 }},
		{nothing(20000), func() { want.Time, want.Free = 20000, 20000 }},
	} {
		tell(t, c, x.r)
		x.change()
		checkSame(t, "behind "+shown(x.r), stateOf(c), want)
	}
}

// P10.3: the times are as great as they can be.
func TestFreeInTheEnd(t *testing.T) {
	c := start(t, under(rule()), over(10080, "x"), planOf(nil, 0))
	tell(t, c, hold(greatest, 10080))
	checkSame(t, "Free", c.Free(), greatest+10080)
	tell(t, c, begin(greatest))
	for range 398 {
		tell(t, c, hold(greatest, 10080))
	}
	checkSame(t, "Free", c.Free(), greatest+10080*399)
}

// P10.1, P10.10: what is done with a copy leaves the convoy as it is, and the other way round; both do the same.
func TestCopy(t *testing.T) {
	make := func() *convoy.Convoy {
		c := start(t, under(rule(hours(0, 720)), rule(count("b", 1, 2))), over(60, "x", "y", "x"), planOf(some("b", 1), 0, 60, 120))
		tell(t, c, begin(1), hold(2, 3), thing(3, "c", 1), shut(4, "y", 50, 70), end(70), begin(71))
		return c
	}
	c, like := make(), make()
	d := c.Copy()
	checkSame(t, "a copy", stateOf(d), stateOf(c))
	for _, all := range [][2]*convoy.Convoy{{c, d}, {d.Copy(), d}, {d, d.Copy().Copy()}} {
		one, other := all[0].Copy(), all[1].Copy()
		before := stateOf(one)
		tell(t, other, thing(80, "b", 2), thing(80, "d", 7), hold(81, 9), shut(82, "x", 0, 2000), end(90))
		n, e := other.Adopt(planOf(some("b", 2), 1440))
		check(t, "Adopt while x is closed", n, e, 2, api.ErrBlock)
		n, e = other.Adopt(planOf(some("b", 2), 2880))
		check(t, "Adopt", n, e, 2, api.OK)
		checkSame(t, "the other one", stateOf(one), before)
	}
	for _, x := range []*convoy.Convoy{like, c, d} {
		tell(t, x, end(140))
		p, e := replan(x)
		check(t, "Replan", p, e, proposal{2, planOf(some("b", 1, "c", 1), 140)}, api.OK)
		n, e := x.Adopt(p.Plan)
		check(t, "Adopt", n, e, 2, api.OK)
		got, e := x.Report(begin(139))
		check(t, "too early", got, e, nil, api.ErrOld)
		got, e = x.Report(begin(141))
		check(t, "late", got, e, []api.Deviation{deviation(7, 2, api.DeviateLate, 1)}, api.OK)
		checkSame(t, "all", stateOf(x), stateOf(like))
	}
}

// P10.10: what is added to a convoy and to its copy does not mix.
func TestCopyGrows(t *testing.T) {
	c := start(t, under(), over(60, "x", "y", "x"), planOf(some("a", 1, "b", 1, "c", 1), 0, 60, 120))
	tell(t, c, shut(0, "z", 0, 1), shut(0, "z", 0, 2), shut(0, "z", 0, 3), begin(1), end(62), begin(63))
	d := c.Copy()
	late := []api.Deviation{deviation(3, 0, api.DeviateLate, 1), deviation(4, 0, api.DeviateSlow, 1), deviation(5, 1, api.DeviateLate, 3)}
	tell(t, c, end(64), shut(200, "x", 0, 500), thing(200, "e", 5))
	tell(t, d, end(130), shut(200, "x", 0, 900), thing(200, "d", 4))
	checkSame(t, "Deviations", c.Deviations(), append(late, deviation(6, 1, api.DeviateFast, 59)))
	checkSame(t, "Deviations of the copy", d.Deviations(), append(late, deviation(6, 1, api.DeviateSlow, 7)))
	p, e := replan(c)
	check(t, "Replan", p, e, proposal{2, planOf(some("a", 1, "b", 1, "c", 1, "e", 5), 500)}, api.OK)
	p, e = replan(d)
	check(t, "Replan of the copy", p, e, proposal{2, planOf(some("a", 1, "b", 1, "c", 1, "d", 4), 900)}, api.OK)
}
