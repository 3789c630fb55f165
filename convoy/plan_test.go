package convoy_test

import (
	"math/rand/v2"
	"slices"
	"testing"

	"gooseneck/api"
	"gooseneck/convoy"
	"gooseneck/permit"
)

// P10.4: the earliest plan for what is left.
func TestReplan(t *testing.T) {
	l := under(rule(hours(100, 500)), rule(count("b", 1, 2)), rule(roads("z"), count("c", 1, 1)))
	one := some("b", 1)
	type want struct {
		passage int
		starts  []int64
		e       api.Errno
	}
	for _, x := range []struct {
		what    string
		reports []api.Report
		want    want
	}{
		{"nothing has happened", nil, want{0, []int64{100, 200, 300}, api.OK}},
		{"later on the day", []api.Report{nothing(201)}, want{0, []int64{201, 301, day + 100}, api.OK}},
		{"a day too late", []api.Report{nothing(401)}, want{0, []int64{day + 100, day + 200, day + 300}, api.OK}},
		{"held before it begins", []api.Report{hold(0, 250)}, want{0, []int64{250, 350, day + 100}, api.OK}},
		{"on the road", []api.Report{begin(100)}, want{1, []int64{200, 300}, api.OK}},
		{"on the road, and held", []api.Report{begin(100), hold(120, 25)}, want{1, []int64{225, 325}, api.OK}},
		{"on the road, and late", []api.Report{begin(100), nothing(330)}, want{1, []int64{330, day + 100}, api.OK}},
		{"one passage has ended", []api.Report{begin(100), end(150)}, want{1, []int64{150, 250}, api.OK}},
		{"one passage has ended, and it is held", []api.Report{begin(100), end(150), hold(160, 300)}, want{1, []int64{day + 100, day + 200}, api.OK}},
		{"in the last passage", []api.Report{begin(100), end(101), begin(101), end(102), begin(102)}, want{3, nil, api.OK}},
		{"done", []api.Report{begin(100), end(101), begin(101), end(102), begin(102), end(103)}, want{3, nil, api.OK}},
		{"done, without an escort", []api.Report{thing(100, "b", 0), begin(100), end(101), begin(101), end(102), begin(102), end(103)}, want{3, nil, api.OK}},
		{"no escort", []api.Report{thing(0, "b", 0)}, want{0, nil, api.ErrRule}},
		{"too many escorts", []api.Report{thing(0, "b", 3)}, want{0, nil, api.ErrRule}},
		{"no escort, and no start", []api.Report{thing(0, "b", 0), shut(0, "x", 0, greatest)}, want{0, nil, api.ErrRule}},
		{"no escort, in the end", []api.Report{begin(100), thing(greatest, "b", 0)}, want{1, nil, api.ErrRule}},
		{"no escort behind the passage", []api.Report{begin(100), thing(100, "b", 0)}, want{1, nil, api.ErrRule}},
		{"no start, in the end", []api.Report{begin(100), nothing(greatest)}, want{1, nil, api.ErrLate}},
		{"the road is closed", []api.Report{shut(0, "x", 0, 150)}, want{0, []int64{150, 250, 350}, api.OK}},
		{"the road is closed up to the start", []api.Report{shut(0, "x", 0, 100)}, want{0, []int64{100, 200, 300}, api.OK}},
		{"the road is closed from its end on", []api.Report{shut(0, "x", 200, 300)}, want{0, []int64{100, 200, 300}, api.OK}},
		{"the road is closed from before its end on", []api.Report{shut(0, "x", 199, 300)}, want{0, []int64{300, 400, day + 100}, api.OK}},
		{"the second road is closed", []api.Report{shut(0, "y", 0, 320)}, want{0, []int64{100, 320, day + 100}, api.OK}},
		{"another road is closed", []api.Report{shut(0, "z", 0, greatest)}, want{0, []int64{100, 200, 300}, api.OK}},
		{"closures behind each other", []api.Report{shut(0, "x", 310, 330), shut(0, "x", 0, 120), shut(0, "x", 210, 310)}, want{0, []int64{330, day + 100, day + 200}, api.OK}},
		{"closures one in another", []api.Report{shut(0, "x", 120, 130), shut(0, "x", 50, 300), shut(0, "x", 150, 160)}, want{0, []int64{300, 400, day + 100}, api.OK}},
		{"closed in the evening", []api.Report{shut(0, "x", 350, 2*day)}, want{0, []int64{100, 200, 2*day + 100}, api.OK}},
		{"closed for ever", []api.Report{shut(0, "y", 5, greatest)}, want{1, nil, api.ErrLate}},
		{"closed for ever, behind a passage", []api.Report{shut(0, "x", 300, greatest)}, want{2, nil, api.ErrLate}},
		{"the last road is closed for ever", []api.Report{begin(100), end(200), begin(200), shut(200, "x", 0, greatest)}, want{2, nil, api.ErrLate}},
	} {
		c := start(t, l, over(100, "x", "y", "x"), planOf(one, 100, 200, 300))
		tell(t, c, x.reports...)
		before := stateOf(c)
		p, e := replan(c)
		check(t, x.what, p, e, proposal{x.want.passage, planOf(one, x.want.starts...)}, x.want.e)
		checkSame(t, "behind Replan with "+x.what, stateOf(c), before)
	}
}

// P10.4: passage by passage; a count that is broken in a later one is not looked at before.
func TestReplanPassageByPassage(t *testing.T) {
	l := under(rule(hours(100, 500)), rule(roads("y"), count("b", 1, 2)))
	c := start(t, l, over(100, "x", "y"), planOf(some("b", 1), 100, 200))
	tell(t, c, thing(0, "b", 0), thing(0, "c", 9))
	p, e := replan(c)
	check(t, "no escort for the second passage", p, e, proposal{Passage: 1}, api.ErrRule)
	tell(t, c, shut(0, "x", 0, 1<<30))
	p, e = replan(c)
	check(t, "and the first one is closed", p, e, proposal{}, api.ErrLate)
	tell(t, c, thing(0, "b", 2))
	p, e = replan(c)
	check(t, "and with escorts", p, e, proposal{}, api.ErrLate)
	tell(t, c, nothing(1<<30))
	at := int64(1<<30) - 1<<30%day + 100
	p, e = replan(c)
	check(t, "later", p, e, proposal{0, planOf(some("b", 2, "c", 9), at, at+100)}, api.OK)
}

// P10.4: a start is looked for on 400 days, from the day on from which it is looked for.
func TestReplanSearches(t *testing.T) {
	closed := func(to int64) []api.Report { return []api.Report{shut(0, "x", 0, to)} }
	for _, x := range []struct {
		what    string
		r       api.Rule
		reports []api.Report
		want    int64 // -1: there is none
	}{
		{"the day 399", rule(season(34, 35)), closed(35 * day), 399 * day},
		{"the day 399, from the end of a day on", rule(season(34, 35)), append(closed(35*day), nothing(day-1)), 399 * day},
		{"the day 400", rule(season(35, 36)), closed(36 * day), -1},
		{"the day 400, from the next day on", rule(season(35, 36)), append(closed(36*day), nothing(day)), 400 * day},
		{"the end of the day 399", rule(), closed(400*day - 1), 400*day - 1},
		{"the end of the day 399, and no minute more", rule(), closed(400 * day), -1},
		{"the end of the day 400", rule(), append(closed(401*day-1), hold(0, day)), 401*day - 1},
		{"the end of the day 400, and no minute more", rule(), append(closed(401*day), hold(0, day)), -1},
		{"a day behind a closure that is too far away", rule(season(34, 35)), []api.Report{nothing(35 * day), shut(35*day, "x", 399*day, 400*day)}, -1},
		{"a day behind a closure", rule(season(34, 35)), []api.Report{nothing(35 * day), shut(35*day, "x", 399*day, 399*day+700)}, 399*day + 700},
		{"the first day of the last year", rule(), []api.Report{nothing(greatest - 399*day), shut(greatest, "x", 0, greatest)}, greatest},
		{"the last minute", rule(), []api.Report{nothing(greatest)}, greatest},
		{"behind the last minute", rule(), []api.Report{hold(greatest, 1)}, -1},
		{"up to the last minute", rule(), []api.Report{hold(greatest-1, 1)}, greatest},
		{"allowed only behind the last minute", rule(hours(17*60, 18*60)), []api.Report{nothing(greatest)}, -1},
		{"allowed at the last minute", rule(hours(greatest%day, greatest%day+60)), []api.Report{nothing(greatest - 30)}, greatest},
		{"allowed from a minute later on", rule(hours(greatest%day+1, greatest%day+61)), []api.Report{nothing(greatest - 30)}, -1},
	} {
		l, trip := under(x.r), over(60, "x")
		first, _ := permit.Next(l, trip, 0, 0)
		c := start(t, l, trip, planOf(nil, first))
		for _, r := range x.reports {
			r.At = min(max(r.At, c.Time()), greatest)
			tell(t, c, r)
		}
		p, e := replan(c)
		if x.want < 0 {
			check(t, x.what, p, e, proposal{}, api.ErrLate)
		} else {
			check(t, x.what, p, e, proposal{0, planOf(nil, x.want)}, api.OK)
		}
	}
}

// P10.4: the second passage would begin behind all minutes.
func TestReplanInTheEnd(t *testing.T) {
	c := start(t, under(), over(60, "x", "y"), planOf(nil, 0, 60))
	tell(t, c, nothing(greatest-60))
	p, e := replan(c)
	check(t, "in time", p, e, proposal{0, planOf(nil, greatest-60, greatest)}, api.OK)
	tell(t, c, nothing(greatest-59))
	p, e = replan(c)
	check(t, "too late", p, e, proposal{Passage: 1}, api.ErrLate)
	n, e := c.Adopt(planOf(nil, greatest-59, greatest))
	check(t, "Adopt", n, e, 1, api.ErrLate)
	n, e = c.Adopt(planOf(nil, greatest-59, greatest+1))
	check(t, "Adopt", n, e, 1, api.ErrRange)
}

// P10.5
func TestAdopt(t *testing.T) {
	l := under(rule(hours(100, 500)), rule(count("b", 1, 2)))
	one := some("b", 1)
	with := func(i int, change func(x *api.Crossing)) []api.Crossing {
		plan := planOf(one, 250, 350)
		change(&plan[i])
		return plan
	}
	of := func(things []api.Count) func(x *api.Crossing) {
		return func(x *api.Crossing) { x.Things = things }
	}
	at := func(start int64) func(x *api.Crossing) {
		return func(x *api.Crossing) { x.Start = start }
	}
	bad := func(x *api.Crossing) { *x = api.Crossing{Start: -1, Things: make([]api.Count, 7)} }
	for _, x := range []struct {
		what string
		plan []api.Crossing
		n    int
		want api.Errno
	}{
		{"as soon as possible", planOf(one, 210, 310), 1, api.OK},
		{"later", planOf(one, 250, 350), 1, api.OK},
		{"on other days", planOf(one, day+100, 7*day+400), 1, api.OK},
		{"with other things", planOf(some("c", 1000, "b", 2, "b", 7), 210, 310), 1, api.OK},
		{"none", nil, 0, api.ErrEqual},
		{"for a passage too few", planOf(one, 250), 0, api.ErrEqual},
		{"for a passage too many", planOf(one, 100, 250, 350), 0, api.ErrEqual},
		{"for a passage too few, and bad", with(0, bad)[:1], 0, api.ErrEqual},
		{"before it is free", with(0, at(209)), 1, api.ErrLate},
		{"long before it is free", with(0, at(100)), 1, api.ErrLate},
		{"before the passage before has ended", planOf(one, 251, 350), 2, api.ErrLate},
		{"before the passage before", with(1, at(210)), 2, api.ErrLate},
		{"too late in the day", with(1, at(401)), 2, api.ErrRule},
		{"at the end of the day", with(1, at(400)), 1, api.OK},
		{"too early in the day", with(1, at(day+99)), 2, api.ErrRule},
		{"without things", with(0, of(nil)), 1, api.ErrRule},
		{"with too few", with(1, of(some("b", 0))), 2, api.ErrRule},
		{"with too many", with(1, of(some("b", 3))), 2, api.ErrRule},
		{"with the first of two numbers", with(0, of(some("b", 3, "b", 1))), 1, api.ErrRule},
		{"while the first one is closed", planOf(one, 3*day+100, 4*day+100), 1, api.ErrBlock},
		{"while the first one is closed in its last minute", planOf(one, 2*day+301, 4*day+100), 1, api.ErrBlock},
		{"just before the first one is closed", planOf(one, 2*day+300, 4*day+100), 1, api.OK},
		{"while the first one is closed, without things", with(0, func(x *api.Crossing) { *x = api.Crossing{Start: 3*day + 99} }), 1, api.ErrBlock},
		{"just behind the closure", planOf(one, 3*day+150, 4*day+100), 1, api.OK},
		{"while the second one is closed", planOf(one, day+100, 5*day+100), 2, api.ErrBlock},
		{"while the road of the other one is closed", planOf(one, 5*day+100, 6*day+100), 1, api.OK},
		{"a start below 0", with(0, at(-1)), 1, api.ErrRange},
		{"a start too great", with(1, at(greatest+1)), 2, api.ErrRange},
		{"as late as can be", with(1, at(greatest-greatest%day-1340)), 1, api.OK},
		{"7 things", with(0, of(slices.Repeat(one, 7))), 1, api.ErrMany},
		{"7 things, and late", with(1, func(x *api.Crossing) { *x = api.Crossing{Things: slices.Repeat(one, 7)} }), 2, api.ErrMany},
		{"7 things that are not valid", with(1, of(make([]api.Count, 7))), 2, api.ErrMany},
		{"a thing without a name", with(0, of(some("b", 1, "", 0))), 1, api.ErrArg},
		{"a thing of a bad name, and late", with(1, func(x *api.Crossing) { *x = api.Crossing{Things: some("B", 1)} }), 2, api.ErrArg},
		{"fewer than none", with(0, of(some("b", -1))), 1, api.ErrArg},
		{"too many of a thing", with(0, of(some("b", 1001))), 1, api.ErrArg},
		{"the second one bad", with(1, bad), 2, api.ErrRange},
		{"the first one broken, and the second one bad", planOf(one, 401, -1), 1, api.ErrRule},
		{"the first one late, and the second one bad", planOf(one, 0, -1), 1, api.ErrLate},
	} {
		c := start(t, l, over(100, "x", "y", "x"), planOf(one, 100, 200, 300))
		tell(t, c, begin(100), hold(110, 10), thing(111, "b", 0), shut(112, "y", 2*day+400, 3*day+150), shut(113, "x", 5*day, 5*day+500))
		want := stateOf(c)
		plan := clonePlan(x.plan)
		n, e := c.Adopt(x.plan)
		check(t, x.what, n, e, x.n, x.want)
		if e == api.OK {
			want.Plan = append(want.Plan[:1], plan...)
		}
		checkSame(t, "behind "+x.what, stateOf(c), want)
	}
}

// P10.5: the plan that was adopted is the one to keep to; the things remain as they are.
func TestAdopted(t *testing.T) {
	c := start(t, under(rule(count("b", 1, 1))), over(60, "x", "y"), planOf(some("b", 1), 100, 160))
	n, e := c.Adopt(planOf(some("b", 1, "c", 5), 0, 200))
	check(t, "Adopt", n, e, 0, api.OK)
	checkSame(t, "Things", c.Things(), some("b", 1))
	tell(t, c, begin(0), end(60))
	checkSame(t, "Deviations", c.Deviations(), []api.Deviation{})
	n, e = c.Adopt(planOf(some("b", 1), 70))
	check(t, "Adopt", n, e, 1, api.OK)
	tell(t, c, begin(71))
	checkSame(t, "Deviations", c.Deviations(), []api.Deviation{deviation(2, 1, api.DeviateLate, 1)})
	n, e = c.Adopt(nil)
	check(t, "Adopt of nothing", n, e, 2, api.OK)
	n, e = c.Adopt(planOf(some("b", 1), 200))
	check(t, "Adopt for the passage on the road", n, e, 0, api.ErrEqual)
	tell(t, c, end(131))
	n, e = c.Adopt([]api.Crossing{})
	check(t, "Adopt when it is done", n, e, 2, api.OK)
	n, e = c.Adopt(planOf(some("b", 1), 200))
	check(t, "Adopt for none", n, e, 0, api.ErrEqual)
	checkSame(t, "Plan", c.Plan(), append(planOf(some("b", 1, "c", 5), 0), planOf(some("b", 1), 70)...))
}

// anyAdoption returns a plan for what is left; many of them can be adopted.
func anyAdoption(r *rand.Rand, c *convoy.Convoy, m *model) []api.Crossing {
	_, plan, _ := c.Replan()
	if plan == nil || r.IntN(4) == 0 {
		plan = clonePlan(m.plan[m.first():])
	}
	for i := range plan {
		x := &plan[i]
		switch r.IntN(8) {
		case 0:
			x.Start += from(r, -3, 3)
		case 1:
			x.Start = pick(r, m.time, m.free(), m.free()+from(r, 0, 3000))
		case 2:
			x.Things = anyThings(r)
		case 3:
			x.Start += 7 * day * from(r, 0, 60)
		case 4:
			if len(m.closures) > 0 {
				x.Start = pick(r, m.closures...).To - from(r, 0, 1)
			}
		}
		if r.IntN(40) == 0 {
			x.Start = pick(r, extremes...)
		}
		if r.IntN(40) == 0 {
			x.Things = append(x.Things, some(pick(r, "b", "", "B"), int(from(r, -1, 1001)))...)
		}
	}
	if r.IntN(20) == 0 {
		plan = append(plan, m.plan[0])
	}
	return plan
}

// P10.4, P10.5: plans for any convoys, against the definitions.
func TestPlansAny(t *testing.T) {
	r := chance(2)
	replans, adopts := map[api.Errno]int{}, map[api.Errno]int{}
	for range 1200 {
		c, m := anyConvoy(t, r)
		for range 1 + r.IntN(12) {
			x := anyReport(r, m)
			if m.error(x) == api.OK {
				tell(t, c, x)
				m.report(x)
			}
			if r.IntN(3) > 0 {
				continue
			}
			want, wantErr := m.replan()
			p, e := replan(c)
			check(t, "Replan", p, e, want, wantErr)
			replans[e]++
			plan := anyAdoption(r, c, m)
			n, wantErr := m.adopt(plan)
			got, e := c.Adopt(plan)
			check(t, "Adopt of "+shown(plan), got, e, n, wantErr)
			checkSame(t, "behind Adopt", stateOf(c), m.state())
			adopts[e]++
		}
	}
	for _, e := range []api.Errno{api.OK, api.ErrRule, api.ErrLate} {
		if replans[e] < 50 {
			t.Errorf("Replan has ended with the error %d only %d times", e, replans[e])
		}
	}
	for _, e := range []api.Errno{api.OK, api.ErrRange, api.ErrArg, api.ErrEqual, api.ErrBlock, api.ErrRule, api.ErrLate} {
		if adopts[e] < 20 {
			t.Errorf("Adopt has ended with the error %d only %d times", e, adopts[e])
		}
	}
}
