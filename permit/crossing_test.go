package permit_test

import (
	"slices"
	"testing"

	"gooseneck/api"
	"gooseneck/permit"
)

// lastDay is when the last day begins that has all its minutes within the limit.
const lastDay = (1<<40/day - 1) * day

// P8.6
func TestBroken(t *testing.T) {
	two := []api.Rule{rule(hours(100, 200)), rule(count("e", 2, 3)), rule(), rule(count("e", 0, 2), count("s", 1, 1000))}
	for _, x := range []struct {
		what string
		c    api.Crossing
		want []int
	}{
		{"nothing is broken", api.Crossing{Start: 140, Things: []api.Count{{Thing: "e", Least: 2}, {Thing: "s", Least: 1}}}, nil},
		{"begun as early as possible", api.Crossing{Start: 100, Things: []api.Count{{Thing: "s", Least: 1000}, {Thing: "e", Least: 2}}}, nil},
		{"too late by a minute", api.Crossing{Start: 141, Things: []api.Count{{Thing: "e", Least: 2}, {Thing: "s", Least: 1}}}, []int{0}},
		{"too early by a minute", api.Crossing{Start: 99, Things: []api.Count{{Thing: "e", Least: 2}, {Thing: "s", Least: 1}}}, []int{0}},
		{"too few", api.Crossing{Start: 100, Things: []api.Count{{Thing: "e", Least: 1}, {Thing: "s", Least: 1}}}, []int{1}},
		{"too many", api.Crossing{Start: 100, Things: []api.Count{{Thing: "e", Least: 4}, {Thing: "s", Least: 1}}}, []int{1, 3}},
		{"too many for one", api.Crossing{Start: 100, Things: []api.Count{{Thing: "e", Least: 3}, {Thing: "s", Least: 1}}}, []int{3}},
		{"none", api.Crossing{Start: 100}, []int{1, 3}},
		{"none, and too late", api.Crossing{Start: 1439}, []int{0, 1, 3}},
		{"the second count of a rule", api.Crossing{Start: 100, Things: things("e", 2)}, []int{3}},
		{"the first of two things of a name", api.Crossing{Start: 100, Things: []api.Count{{Thing: "e", Least: 2}, {Thing: "e", Least: 9}, {Thing: "s", Least: 1}, {Thing: "s"}}}, nil},
		{"the first of two things of a name is none", api.Crossing{Start: 100, Things: []api.Count{{Thing: "e"}, {Thing: "e", Least: 2}, {Thing: "s", Least: 1}}}, []int{1}},
		{"the most is not looked at", api.Crossing{Start: 100, Things: []api.Count{{Thing: "e", Least: 2, Most: -1}, {Thing: "s", Least: 1, Most: 1 << 62}, {Thing: "x", Least: 5}}}, nil},
		{"a late day", api.Crossing{Start: lastDay + 140, Things: []api.Count{{Thing: "e", Least: 2}, {Thing: "s", Least: 1}}}, nil},
		{"a late day, too late by a minute", api.Crossing{Start: lastDay + 141, Things: []api.Count{{Thing: "e", Least: 2}, {Thing: "s", Least: 1}}}, []int{0}},
	} {
		b, e := permit.Broken(under(two...), pass(60), 0, x.c)
		check(t, x.what, b, e, x.want, api.OK)
	}
}

// P8.6: the numbers are those of the permit's list; rules that allow no minute on the way are broken.
func TestBrokenOfPassages(t *testing.T) {
	l := []api.Authority{
		{Name: "a", Rules: []api.Rule{rule(forbid), rule(roads("y"), days(1)), rule(season(0, 1))}},
		{Name: "b", Rules: []api.Rule{rule(when(0, 1), forbid), rule(hours(0, 1439))}},
	}
	trip := api.Trip{Passages: []api.Passage{
		{Authority: "a", Road: "x", Minutes: 1}, {Authority: "b", Road: "x", Minutes: 10080}, {Authority: "a", Road: "y", Minutes: 1440}, {Authority: "b", Road: "x", Minutes: 1439},
	}}
	for _, x := range []struct {
		passage int
		start   int64
		want    []int
	}{
		{0, 0, []int{0}},
		{0, day, []int{0, 1}},
		{1, 0, []int{2}},
		{2, 0, []int{3}},
		{2, 1, []int{3, 4, 5}},
		{2, 7 * day, []int{3, 5}},
		{2, 365 * day, []int{3, 4}},
		{3, lastDay, nil},
		{3, 1, []int{6}},
	} {
		b, e := permit.Broken(l, trip, x.passage, api.Crossing{Start: x.start})
		check(t, "Broken", b, e, x.want, api.OK)
	}
}

// badCrossings are crossings with their errors.
func badCrossings() map[string]struct {
	c    api.Crossing
	want api.Errno
} {
	many := slices.Repeat(things("x", 1), 7)
	return map[string]struct {
		c    api.Crossing
		want api.Errno
	}{
		"a start below 0":               {api.Crossing{Start: -1}, api.ErrRange},
		"a start above":                 {api.Crossing{Start: 1<<40 + 1}, api.ErrRange},
		"a start far above":             {api.Crossing{Start: extremes[len(extremes)-1]}, api.ErrRange},
		"a start below 0, and too many": {api.Crossing{Start: -1, Things: many}, api.ErrRange},
		"7 things":                      {api.Crossing{Things: many}, api.ErrMany},
		"7 things that are not valid":   {api.Crossing{Things: make([]api.Count, 7)}, api.ErrMany},
		"a thing without a name":        {api.Crossing{Things: things("", 1)}, api.ErrArg},
		"a thing of no name":            {api.Crossing{Things: append(things("a", 1), things("A", 1)...)}, api.ErrArg},
		"a thing of a long name":        {api.Crossing{Things: things(tooLongName, 1)}, api.ErrArg},
		"fewer than none":               {api.Crossing{Things: things("a", -1)}, api.ErrArg},
		"too many of a thing":           {api.Crossing{Things: append(things("a", 0), things("a", 1001)...)}, api.ErrArg},
		"far too many of a thing":       {api.Crossing{Things: things("a", extremes[len(extremes)-1])}, api.ErrArg},
		"as many as there may be":       {api.Crossing{Start: 1 << 40, Things: slices.Repeat(things(longName, 1000), 6)}, api.OK},
		"none of a thing":               {api.Crossing{Things: things("0", 0)}, api.OK},
		"as many as there may be not":   {api.Crossing{Things: []api.Count{{Thing: "a", Least: 3, Most: -9}}}, api.OK},
	}
}

// P8.6
func TestBrokenErrors(t *testing.T) {
	for what, x := range badCrossings() {
		b, e := permit.Broken(under(rule()), pass(60), 0, x.c)
		check(t, what, b, e, nil, x.want)
	}
}

// P8.6
func TestBrokenAny(t *testing.T) {
	r := chance(7)
	found, none := 0, 0
	for range 3000 {
		l, trip := anyPermit(r, 4)
		i := r.IntN(len(trip.Passages))
		rules, numbers := rulesOf(l, trip, i)
		c := api.Crossing{Start: anyMinute(r), Things: anyThings(r)}
		var want []int
		for k, one := range rules {
			if breaks(one, c, trip.Passages[i].Minutes) {
				want = append(want, numbers[k])
			}
		}
		b, e := permit.Broken(l, trip, i, c)
		check(t, "Broken", b, e, want, api.OK)
		if found += len(b); len(b) == 0 && len(rules) > 0 {
			none++
		}
	}
	if found < 1000 || none < 200 {
		t.Errorf("%d broken, and %d times none", found, none)
	}
}

// P8.7
func TestTrips(t *testing.T) {
	l := under(rule(hours(100, 400)), rule(count("e", 1, 2)))
	l[0].Notice = 50
	at := func(starts ...int64) []api.Crossing {
		var c []api.Crossing
		for _, s := range starts {
			c = append(c, api.Crossing{Start: s, Things: things("e", 1)})
		}
		return c
	}
	few := at(100, 160, 230)
	few[1].Things = nil
	badThing := at(100, 160, 230)
	badThing[2].Things = things("E", 1)
	crowded := at(100, 160, 50)
	crowded[2].Things = make([]api.Count, 7)
	for _, x := range []struct {
		what  string
		asked int64
		c     []api.Crossing
		n     int
		want  api.Errno
	}{
		{"one after another", 0, at(100, 160, 230), 3, api.OK},
		{"later", 0, at(day+100, 2*day+200, 2*day+330), 3, api.OK},
		{"just in time", 50, at(100, 160, 230), 3, api.OK},
		{"asked too late", 51, at(100, 160, 230), 0, api.ErrLate},
		{"asked in the end", 1 << 40, at(100, 160, 230), 0, api.ErrLate},
		{"asked before all", -1, at(100, 160, 230), 0, api.ErrRange},
		{"asked behind the end", 1<<40 + 1, at(100, 160, 230), 0, api.ErrRange},
		{"asked before all, and too few", -1, at(100), 0, api.ErrRange},
		{"too few", 0, at(100, 160), 0, api.ErrEqual},
		{"too many", 0, at(100, 160, 230, 300), 0, api.ErrEqual},
		{"none", 0, nil, 0, api.ErrEqual},
		{"as many as there are, of which the first one is not possible", 0, at(-1, 160), 0, api.ErrEqual},
		{"the second one before the first one has ended", 0, at(100, 159, 230), 1, api.ErrLate},
		{"the third one before the second one has ended", 0, at(100, 160, 229), 2, api.ErrLate},
		{"the third one before the first one", 0, at(100, 160, 99), 2, api.ErrLate},
		{"the third one out of its hours", 0, at(100, 160, 331), 2, api.ErrRule},
		{"the first one out of its hours", 0, at(99, 160, 230), 0, api.ErrRule},
		{"the first one out of its hours, and too late", 50, at(99, 160, 230), 0, api.ErrLate},
		{"the first one out of its hours, and a bad one", 0, at(99, -1, 230), 0, api.ErrRule},
		{"a bad one, and the next one late", 0, at(100, -1, 0), 1, api.ErrRange},
		{"a bad one at the end", 0, at(100, 160, 1<<40+1), 2, api.ErrRange},
		{"too few things", 0, few, 1, api.ErrRule},
		{"a thing that is not possible", 0, badThing, 2, api.ErrArg},
		{"too many things, and late", 0, crowded, 2, api.ErrMany},
	} {
		n, e := permit.Trips(l, pass(60, 70, 70), x.asked, x.c)
		check(t, x.what, n, e, x.n, x.want)
	}
}

// P8.7: the errors of Broken for a crossing, with its number.
func TestTripsOfBadCrossings(t *testing.T) {
	for what, x := range badCrossings() {
		n, e := permit.Trips(under(rule()), pass(60), 0, []api.Crossing{x.c})
		if want := map[bool]int{true: 1}[x.want == api.OK]; n != want || e != x.want {
			t.Errorf("%s: %d, %d, want %d, %d", what, n, e, want, x.want)
		}
		for i := range 2 {
			c := []api.Crossing{{Start: 1}, {Start: 1000}}
			c[i] = x.c
			if n, e := permit.Trips(under(rule()), pass(60, 60), 0, c); x.want != api.OK && (n != i || e != x.want) {
				t.Errorf("%s: %d, %d, want %d, %d", what, n, e, i, x.want)
			}
		}
	}
}

// P8.7: the notice is the greatest one of the authorities that are named, wherever.
func TestTripsNotice(t *testing.T) {
	l := []api.Authority{{Name: "a", Notice: 10}, {Name: "b", Notice: 100}, {Name: "c", Notice: 1000}}
	trip := api.Trip{Passages: []api.Passage{{Authority: "a", Road: "x", Minutes: 500}, {Authority: "b", Road: "x", Minutes: 1}}}
	for _, x := range []struct {
		start int64
		n     int
		want  api.Errno
	}{{105, 2, api.OK}, {104, 0, api.ErrLate}} {
		n, e := permit.Trips(l, trip, 5, []api.Crossing{{Start: x.start}, {Start: 605}})
		check(t, "Trips", n, e, x.n, x.want)
	}
	l[0].Notice = 1 << 20
	n, e := permit.Trips(l, trip, 1<<40, []api.Crossing{{Start: 1 << 40}, {Start: 1 << 40}})
	check(t, "Trips in the end", n, e, 0, api.ErrLate)
}

// P8.7
func TestTripsAny(t *testing.T) {
	r := chance(8)
	found := map[api.Errno]int{}
	for range 3000 {
		l, trip := anyPermit(r, 2)
		asked := anyMinute(r)
		free := asked + permitOf(l, trip).Notice
		var c []api.Crossing
		want, n := api.OK, -1
		for i, p := range trip.Passages {
			rules, _ := rulesOf(l, trip, i)
			one := api.Crossing{Start: free + pick(r, -1, 0, from(r, 0, 400), from(r, 0, 400)), Things: anyThings(r)}
			one.Start = max(0, min(one.Start, 1<<40))
			if next, e := permit.Next(l, trip, i, one.Start); e == api.OK && r.IntN(3) > 0 {
				one.Start = min(next, 1<<40)
			}
			for _, k := range thingsOf(rules) {
				if r.IntN(2) == 0 {
					one.Things = slices.Insert(one.Things, 0, api.Count{Thing: k, Least: from(r, 0, 4)})
				}
			}
			one.Things = one.Things[:min(6, len(one.Things))]
			switch {
			case n >= 0:
			case one.Start < free:
				want, n = api.ErrLate, i
			case slices.ContainsFunc(rules, func(x api.Rule) bool { return breaks(x, one, p.Minutes) }):
				want, n = api.ErrRule, i
			}
			free = one.Start + p.Minutes
			c = append(c, one)
		}
		if n < 0 {
			n = len(c)
		}
		got, e := permit.Trips(l, trip, asked, c)
		check(t, "Trips", got, e, n, want)
		found[e]++
	}
	if found[api.OK] < 300 || found[api.ErrLate] < 300 || found[api.ErrRule] < 300 {
		t.Errorf("%v", found)
	}
}
