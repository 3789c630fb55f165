package convoy_test

import (
	"testing"

	"gooseneck/api"
	"gooseneck/convoy"
	"gooseneck/permit"
)

// P10.2: which reports are valid.
func TestValidReports(t *testing.T) {
	lo, hi := extremes[0], extremes[len(extremes)-1]
	type one struct {
		what string
		r    api.Report
		want api.Errno
	}
	l := []one{
		{"the first minute", nothing(0), api.OK},
		{"the last minute", nothing(greatest), api.OK},
		{"before all minutes", nothing(-1), api.ErrArg},
		{"long before all minutes", nothing(lo), api.ErrArg},
		{"behind all minutes", nothing(greatest + 1), api.ErrArg},
		{"long behind all minutes", nothing(hi), api.ErrArg},
		{"no kind", api.Report{}, api.ErrArg},
		{"a kind above", api.Report{Kind: 7}, api.ErrArg},
		{"a kind below", api.Report{Kind: -1}, api.ErrArg},
		{"the least kind", api.Report{Kind: int(lo)}, api.ErrArg},
		{"the greatest kind", api.Report{Kind: int(hi)}, api.ErrArg},
		{"a short breakdown", hold(0, 1), api.OK},
		{"a long breakdown", hold(0, 10080), api.OK},
		{"no breakdown", hold(0, 0), api.ErrArg},
		{"a breakdown below 0", hold(0, -1), api.ErrArg},
		{"too long a breakdown", hold(0, 10081), api.ErrArg},
		{"far too long a breakdown", hold(0, hi), api.ErrArg},
		{"none of a thing", thing(0, "a", 0), api.OK},
		{"many of a thing", thing(0, longName, 1000), api.OK},
		{"fewer than none of a thing", thing(0, "a", -1), api.ErrArg},
		{"too many of a thing", thing(0, "a", 1001), api.ErrArg},
		{"a short closure", shut(0, "0", 0, 1), api.OK},
		{"a long closure", shut(0, longName, 0, greatest), api.OK},
		{"a late closure", shut(0, "a", greatest-1, greatest), api.OK},
		{"a closure from below 0", shut(0, "a", -1, 1), api.ErrArg},
		{"a closure of no minute", shut(0, "a", 5, 5), api.ErrArg},
		{"a closure that ends before it begins", shut(0, "a", 5, 4), api.ErrArg},
		{"a closure up to too late", shut(0, "a", 0, greatest+1), api.ErrArg},
		{"a closure of all times", shut(0, "a", lo, hi), api.ErrArg},
		{"a closure of no time", shut(0, "a", hi, lo), api.ErrArg},
		{"begun, with what does not matter", api.Report{Kind: api.ReportBegin, N: -1, Name: "A", From: 9, To: -9}, api.OK},
		{"a breakdown, with what does not matter", api.Report{Kind: api.ReportHold, N: 1, Name: "A", From: 9, To: lo}, api.OK},
		{"a thing, with what does not matter", api.Report{Kind: api.ReportThing, N: 1, Name: "a", From: 9, To: hi}, api.OK},
		{"a closure, with what does not matter", api.Report{Kind: api.ReportClose, N: lo, Name: "a", To: 1}, api.OK},
		{"nothing, with what does not matter", api.Report{Kind: api.ReportNothing, N: hi, Name: " ", From: 9, To: 1}, api.OK},
		{"ended, with what does not matter", api.Report{At: 1, Kind: api.ReportEnd, N: hi, Name: " ", From: 9, To: 1}, api.ErrState},
	}
	for _, name := range badNames {
		l = append(l, one{"a thing " + name, thing(0, name, 0), api.ErrArg}, one{"a road " + name, shut(0, name, 0, 1), api.ErrArg})
	}
	for _, x := range l {
		c := start(t, under(), over(60, "x"), planOf(nil, 0))
		before := stateOf(c)
		d, e := c.Report(x.r)
		check(t, x.what, d, e, nil, x.want)
		if e != api.OK {
			checkSame(t, "behind "+x.what, stateOf(c), before)
		}
	}
}

// P10.2: the errors come in order, and change nothing.
func TestReportErrors(t *testing.T) {
	full := func(c *convoy.Convoy) {
		for i := range 16 {
			tell(t, c, shut(50, "x", int64(i), 100))
		}
		tell(t, c, thing(50, "b", 1), thing(50, "c", 1), thing(50, "d", 1), thing(50, "e", 1), thing(50, "f", 1), thing(50, "g", 0))
	}
	moving := func(c *convoy.Convoy) { tell(t, c, begin(50)) }
	done := func(c *convoy.Convoy) { tell(t, c, begin(40), end(41), begin(41), end(50)) }
	last := func(c *convoy.Convoy) {
		e := api.OK
		for e == api.OK {
			_, e = c.Report(nothing(400))
		}
	}
	for _, x := range []struct {
		what string
		make []func(c *convoy.Convoy)
		r    api.Report
		want api.Errno
	}{
		{"begun twice", []func(c *convoy.Convoy){moving}, begin(51), api.ErrState},
		{"begun twice at once", []func(c *convoy.Convoy){moving}, begin(50), api.ErrState},
		{"begun twice, and too old", []func(c *convoy.Convoy){moving}, begin(49), api.ErrOld},
		{"ended at once", []func(c *convoy.Convoy){moving}, end(50), api.ErrState},
		{"ended behind a minute", []func(c *convoy.Convoy){moving}, end(51), api.OK},
		{"ended before it began", []func(c *convoy.Convoy){moving}, end(49), api.ErrOld},
		{"ended below 0", []func(c *convoy.Convoy){moving}, end(-1), api.ErrArg},
		{"not begun", nil, end(50), api.ErrState},
		{"begun when done", []func(c *convoy.Convoy){done}, begin(51), api.ErrState},
		{"ended when done", []func(c *convoy.Convoy){done}, end(51), api.ErrState},
		{"held when done", []func(c *convoy.Convoy){done}, hold(51, 1), api.OK},
		{"a closure too many", []func(c *convoy.Convoy){full}, shut(50, "y", 0, 1), api.ErrFull},
		{"the same closure too many", []func(c *convoy.Convoy){full}, shut(50, "x", 0, 100), api.ErrFull},
		{"a closure too many, and too old", []func(c *convoy.Convoy){full}, shut(49, "y", 0, 1), api.ErrOld},
		{"a closure too many, and not valid", []func(c *convoy.Convoy){full}, shut(49, "y", 1, 1), api.ErrArg},
		{"a thing too many", []func(c *convoy.Convoy){full}, thing(50, "h", 0), api.ErrFull},
		{"a thing too many, and too old", []func(c *convoy.Convoy){full}, thing(49, "h", 0), api.ErrOld},
		{"a thing too many, and not valid", []func(c *convoy.Convoy){full}, thing(50, "h", -1), api.ErrArg},
		{"a thing that there is", []func(c *convoy.Convoy){full}, thing(50, "e", 7), api.OK},
		{"a thing of which there is none", []func(c *convoy.Convoy){full}, thing(50, "g", 7), api.OK},
		{"begun when all is full", []func(c *convoy.Convoy){full}, begin(50), api.OK},
		{"too old", []func(c *convoy.Convoy){full}, nothing(49), api.ErrOld},
		{"just in time", []func(c *convoy.Convoy){full}, nothing(50), api.OK},
		{"a report too many", []func(c *convoy.Convoy){last}, nothing(400), api.ErrFull},
		{"a report too many, too old", []func(c *convoy.Convoy){last}, nothing(399), api.ErrOld},
		{"a report too many, and not valid", []func(c *convoy.Convoy){last}, hold(399, 0), api.ErrArg},
		{"a report too many, and not on the road", []func(c *convoy.Convoy){last}, end(401), api.ErrFull},
		{"a report too many, and on the road", []func(c *convoy.Convoy){moving, last}, begin(401), api.ErrFull},
	} {
		c := start(t, under(), over(60, "x", "y"), planOf(nil, 0, 60))
		for _, make := range x.make {
			make(c)
		}
		before := stateOf(c)
		d, e := c.Report(x.r)
		if e != x.want || e != api.OK && len(d) > 0 {
			t.Errorf("%s: %v, %d, want %d", x.what, d, e, x.want)
		}
		if e != api.OK {
			checkSame(t, "behind "+x.what, stateOf(c), before)
		}
	}
}

// P10.2: as many reports, closures and things as there can be; reports that are not taken do not count.
func TestReportLimits(t *testing.T) {
	c := start(t, under(rule(count("b", 0, 0))), over(60, "x"), planOf(some("a", 1), 0))
	for i := range 16 {
		tell(t, c, shut(0, "x", 0, int64(i+1)))
		c.Report(begin(-1))
		c.Report(end(0))
	}
	for _, name := range []string{"b", "c", "d", "e", "f"} {
		tell(t, c, thing(0, name, 1))
		c.Report(thing(0, "A", 1))
	}
	for _, r := range []api.Report{shut(0, "x", 0, 1), thing(0, "g", 1)} {
		d, e := c.Report(r)
		check(t, "full", d, e, nil, api.ErrFull)
	}
	for range 400 - 21 - 1 {
		tell(t, c, nothing(10))
	}
	d, e := c.Report(begin(11))
	want := []api.Deviation{deviation(399, 0, api.DeviateLate, 11), deviation(399, 0, api.DeviateClosed, 0), deviation(399, 0, api.DeviateRule, 0, 0)}
	check(t, "the last report", d, e, want, api.OK)
	d, e = c.Report(end(71))
	check(t, "a report too many", d, e, nil, api.ErrFull)
	checkSame(t, "Time", c.Time(), 11)
}

// P10.2: what is not as it was planned or allowed when a passage begins.
func TestBegin(t *testing.T) {
	l := under(rule(hours(100, 400)), rule(count("b", 1, 2)), rule(roads("y")), rule(count("c", 0, 0), hours(0, 400)))
	for _, x := range []struct {
		what   string
		before []api.Report
		at     int64
		want   []api.Deviation
	}{
		{"as planned", nil, 200, nil},
		{"early", nil, 199, []api.Deviation{deviation(0, 0, api.DeviateEarly, 1)}},
		{"late", nil, 201, []api.Deviation{deviation(0, 0, api.DeviateLate, 1)}},
		{"as early as it is allowed", nil, 100, []api.Deviation{deviation(0, 0, api.DeviateEarly, 100)}},
		{"too early", nil, 99, []api.Deviation{deviation(0, 0, api.DeviateEarly, 101), deviation(0, 0, api.DeviateRule, 0, 0)}},
		{"as late as it is allowed", nil, 340, []api.Deviation{deviation(0, 0, api.DeviateLate, 140)}},
		{"too late", nil, 341, []api.Deviation{deviation(0, 0, api.DeviateLate, 141), deviation(0, 0, api.DeviateRule, 0, 0, 2)}},
		{"no escort", []api.Report{thing(0, "b", 0)}, 200, []api.Deviation{deviation(1, 0, api.DeviateRule, 0, 1)}},
		{"too many", []api.Report{thing(0, "b", 3), thing(0, "c", 1)}, 200, []api.Deviation{deviation(2, 0, api.DeviateRule, 0, 1, 2)}},
		{"as many as there may be", []api.Report{thing(0, "b", 2), thing(0, "c", 0)}, 200, nil},
		{"closed", []api.Report{shut(0, "x", 0, 1000)}, 200, []api.Deviation{deviation(1, 0, api.DeviateClosed, 0)}},
		{"closed in the first minute", []api.Report{shut(0, "x", 0, 201)}, 200, []api.Deviation{deviation(1, 0, api.DeviateClosed, 0)}},
		{"closed before", []api.Report{shut(0, "x", 0, 200)}, 200, nil},
		{"closed in the last minute", []api.Report{shut(0, "x", 259, 260)}, 200, []api.Deviation{deviation(1, 0, api.DeviateClosed, 0)}},
		{"closed behind it", []api.Report{shut(0, "x", 260, 270)}, 200, nil},
		{"another road is closed", []api.Report{shut(0, "y", 0, 1000)}, 200, nil},
		{"closed twice", []api.Report{shut(0, "x", 0, 1000), shut(0, "x", 0, 1000)}, 200, []api.Deviation{deviation(2, 0, api.DeviateClosed, 0)}},
		{"the last one of some closures", []api.Report{shut(0, "x", 0, 200), shut(0, "y", 0, 1000), shut(0, "x", 210, 220)}, 200, []api.Deviation{deviation(3, 0, api.DeviateClosed, 0)}},
		{"all together", []api.Report{hold(0, 900), thing(0, "b", 0), shut(1, "x", 0, 1000)}, 50, []api.Deviation{
			deviation(3, 0, api.DeviateEarly, 150), deviation(3, 0, api.DeviateClosed, 0), deviation(3, 0, api.DeviateRule, 0, 0, 1),
		}},
		{"as late as can be", nil, greatest, []api.Deviation{deviation(0, 0, api.DeviateLate, greatest-200), deviation(0, 0, api.DeviateRule, 0, 0, 2)}},
	} {
		c := start(t, l, over(60, "x", "y"), planOf(some("b", 1), 200, 300))
		tell(t, c, x.before...)
		d, e := c.Report(begin(x.at))
		check(t, x.what, d, e, x.want, api.OK)
		checkSame(t, x.what+": all deviations", c.Deviations(), x.want)
	}
}

// P10.2: what is not as it was planned or allowed when a passage has ended.
func TestEnd(t *testing.T) {
	l := under(rule(hours(100, 400)), rule(count("b", 1, 2)), rule(roads("y")), rule(hours(0, 500)))
	for _, x := range []struct {
		what   string
		begin  int64
		before []api.Report
		at     int64
		want   []api.Deviation
	}{
		{"as planned", 200, nil, 260, nil},
		{"fast", 200, nil, 259, []api.Deviation{deviation(1, 0, api.DeviateFast, 1)}},
		{"slow", 200, nil, 261, []api.Deviation{deviation(1, 0, api.DeviateSlow, 1)}},
		{"held", 200, []api.Report{hold(210, 20)}, 280, nil},
		{"held twice", 200, []api.Report{hold(200, 20), hold(260, 30)}, 310, nil},
		{"held twice, and fast", 200, []api.Report{hold(200, 20), hold(260, 30)}, 280, []api.Deviation{deviation(3, 0, api.DeviateFast, 30)}},
		{"held twice, and slow", 200, []api.Report{hold(200, 20), hold(260, 30)}, 320, []api.Deviation{deviation(3, 0, api.DeviateSlow, 10)}},
		{"held before", 200, nil, 350, []api.Deviation{deviation(1, 0, api.DeviateSlow, 90)}},
		{"up to the last minute", 200, nil, 400, []api.Deviation{deviation(1, 0, api.DeviateSlow, 140)}},
		{"a minute longer", 200, nil, 401, []api.Deviation{deviation(1, 0, api.DeviateSlow, 141), deviation(1, 0, api.DeviateRule, 0, 0)}},
		{"longer", 200, nil, 501, []api.Deviation{deviation(1, 0, api.DeviateSlow, 241), deviation(1, 0, api.DeviateRule, 0, 0, 2)}},
		{"begun too late, and ended in time", 399, nil, 400, []api.Deviation{deviation(1, 0, api.DeviateFast, 59)}},
		{"begun too early", 99, nil, 159, []api.Deviation{deviation(1, 0, api.DeviateRule, 0, 0)}},
		{"held too long, as it seems", 200, []api.Report{hold(200, 200)}, 460, []api.Deviation{deviation(2, 0, api.DeviateRule, 0, 0)}},
		{"no things", 200, []api.Report{thing(200, "b", 0)}, 260, nil},
		{"closed", 200, []api.Report{shut(200, "x", 0, 1000)}, 260, nil},
		{"for ever", 200, nil, greatest, []api.Deviation{deviation(1, 0, api.DeviateSlow, greatest-260), deviation(1, 0, api.DeviateRule, 0, 0, 2)}},
	} {
		c := start(t, l, over(60, "x", "y"), planOf(some("b", 1), 200, 300))
		tell(t, c, begin(x.begin))
		n := len(c.Deviations())
		tell(t, c, x.before...)
		d, e := c.Report(end(x.at))
		check(t, x.what, d, e, x.want, api.OK)
		checkSame(t, x.what+": all deviations", c.Deviations()[n:], x.want)
	}
}

// P10.2: a breakdown before a passage does not make it longer, nor does one of the passage before it.
func TestHeldBefore(t *testing.T) {
	c := start(t, under(), over(60, "x", "y"), planOf(nil, 100, 300))
	tell(t, c, hold(0, 90), begin(100), hold(120, 40), end(200), hold(200, 100), begin(300), hold(310, 5))
	checkSame(t, "Free", c.Free(), 365)
	d, e := c.Report(end(367))
	check(t, "ended", d, e, []api.Deviation{deviation(7, 1, api.DeviateSlow, 2)}, api.OK)
}

// P10.2: a passage may take years. Rules allow all of its minutes, or not one of them.
func TestYearsOnTheRoad(t *testing.T) {
	const begun = 10*day + 700
	for _, x := range []struct {
		what   string
		r      api.Rule
		before int64 // how long it is allowed; -1: for ever
	}{
		{"all minutes", rule(count("b", 0, 9)), -1},
		{"all but the minute before", rule(hours(700, 699)), day - 1},
		{"all but the minute in which it begins", rule(hours(701, 700)), 0},
		{"all but the day before", rule(season(10, 9)), 364*day - 700},
		{"all but the day before, and its minute", rule(season(10, 9), hours(700, 699)), day - 1},
		{"all but the day behind", rule(season(12, 11)), day - 700},
		{"all but the day of the week before", rule(days(127 - 1<<2)), 6*day - 700},
		{"all but the day of the week behind", rule(days(127 - 1<<4)), day - 700},
		{"up to the end of the year", rule(season(0, 364)), 354*day - 700},
		{"the day on which it begins", rule(season(10, 11)), day - 700},
		{"other roads", rule(forbid, roads("y")), -1},
	} {
		for _, minutes := range []int64{
			1, 699, day - 700, day - 1, day, 10080, 10081, 20160, 20161, 364*day - 701, 364*day - 700, 364 * day, 365*day - 1, 365 * day,
			365*day + 1, 400 * day, 2555 * day, 1 << 39, greatest - begun, x.before, x.before + 1,
		} {
			if minutes < 1 {
				continue
			}
			l, trip := under(rule(), x.r, rule(roads("z")), x.r), over(1, "x")
			first, _ := permit.Next(l, trip, 0, 0)
			c := start(t, l, trip, planOf(nil, first))
			tell(t, c, begin(begun))
			d, e := c.Report(end(begun + minutes))
			var want []api.Deviation
			if minutes > 1 {
				want = append(want, deviation(1, 0, api.DeviateSlow, minutes-1))
			}
			if x.before >= 0 && minutes > x.before {
				want = append(want, deviation(1, 0, api.DeviateRule, 0, 1, 2))
			}
			check(t, x.what+", for "+shown(minutes), d, e, want, api.OK)
		}
	}
}

// P10.2, P10.3: any reports to any convoy, against the definitions.
func TestReportAny(t *testing.T) {
	r := chance(1)
	kinds := map[int]int{}
	errors := map[api.Errno]int{}
	for range 1500 {
		c, m := anyConvoy(t, r)
		for range 1 + r.IntN(40) {
			x := anyReport(r, m)
			want := m.error(x)
			d, e := c.Report(x)
			errors[e]++
			if want != api.OK {
				check(t, "Report of "+shown(x), d, e, nil, want)
				continue
			}
			check(t, "Report of "+shown(x), d, e, m.report(x), api.OK)
			checkSame(t, "behind "+shown(x), stateOf(c), m.state())
			for _, y := range d {
				kinds[y.Kind]++
			}
		}
	}
	for kind := api.DeviateEarly; kind <= api.DeviateRule; kind++ {
		if kinds[kind] < 100 {
			t.Errorf("only %d deviations of the kind %d", kinds[kind], kind)
		}
	}
	for _, e := range []api.Errno{api.OK, api.ErrArg, api.ErrOld, api.ErrState} {
		if errors[e] < 150 {
			t.Errorf("only %d reports with the error %d", errors[e], e)
		}
	}
}
