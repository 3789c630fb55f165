package permit_test

import (
	"slices"
	"testing"

	"gooseneck/api"
	"gooseneck/permit"
)

// P8.8
func TestConflict(t *testing.T) {
	const none, forbidden, inHours, inDays, inSeason, ofThing = 0, 1, 2, 3, 4, 5
	for _, x := range []struct {
		what  string
		rules []api.Rule
		kind  int
		set   []int
		cures []int
	}{
		{"no conditions", nil, none, nil, nil},
		{"rules that agree", []api.Rule{rule(hours(0, 9)), rule(hours(8, 0)), rule(days(1)), rule(count("x", 1, 2))}, none, nil, nil},
		{"one that forbids", []api.Rule{rule(), rule(forbid), rule()}, forbidden, []int{1}, []int{1}},
		{"two that forbid", []api.Rule{rule(forbid), rule(forbid)}, forbidden, []int{0}, nil},
		{"two hours", []api.Rule{rule(hours(0, 9)), rule(hours(9, 0))}, inHours, []int{0, 1}, []int{0, 1}},
		{"a rule of no hours", []api.Rule{rule(), rule(hours(1440, 0))}, inHours, []int{1}, []int{1}},
		{"hours that only three exclude", []api.Rule{rule(hours(9, 9)), rule(hours(0, 800)), rule(hours(700, 0)), rule(hours(1300, 100))}, inHours, []int{1, 2, 3}, []int{1, 2, 3}},
		{"three hours, of which each two exclude each other", []api.Rule{rule(hours(0, 1)), rule(hours(1, 2)), rule(hours(2, 3))}, inHours, []int{0, 1}, nil},
		{"one against two", []api.Rule{rule(hours(0, 5)), rule(hours(7, 9)), rule(hours(0, 6))}, inHours, []int{0, 1}, []int{1}},
		{"the last minute of the day is left", []api.Rule{rule(hours(1439, 0)), rule(hours(700, 1440))}, none, nil, nil},
		{"days", []api.Rule{rule(days(3)), rule(days(5)), rule(days(6))}, inDays, []int{0, 1, 2}, []int{0, 1, 2}},
		{"a rule of no days", []api.Rule{rule(days(64)), rule(days(0))}, inDays, []int{1}, []int{1}},
		{"the last day of the week is left", []api.Rule{rule(days(64)), rule(days(96))}, none, nil, nil},
		{"seasons", []api.Rule{rule(season(300, 60)), rule(season(60, 300))}, inSeason, []int{0, 1}, []int{0, 1}},
		{"a rule of no season", []api.Rule{rule(season(365, 0)), rule()}, inSeason, []int{0}, []int{0}},
		{"the last day of the year is left", []api.Rule{rule(season(364, 0)), rule(season(7, 365))}, none, nil, nil},
		{"the 366th day is none", []api.Rule{rule(season(364, 365)), rule(season(365, 364))}, inSeason, []int{0, 1}, []int{0, 1}},
		{"counts", []api.Rule{rule(count("x", 0, 2)), rule(count("x", 3, 4))}, ofThing, []int{0, 1}, []int{0, 1}},
		{"counts that are just right", []api.Rule{rule(count("x", 0, 3)), rule(count("x", 3, 4))}, none, nil, nil},
		{"counts of different things", []api.Rule{rule(count("x", 0, 2)), rule(count("y", 3, 4))}, none, nil, nil},
		{"a rule against itself", []api.Rule{rule(count("y", 0, 2)), rule(count("x", 3, 4), count("x", 1, 2))}, ofThing + 1, []int{1}, []int{1}},
		{"the third thing", []api.Rule{rule(count("x", 0, 1), count("y", 1, 1)), rule(count("y", 1, 2), count("z", 1, 1)), rule(count("z", 0, 0))}, ofThing + 2, []int{1, 2}, []int{1, 2}},
		{"the first of two things", []api.Rule{rule(count("y", 0, 1), count("x", 1, 1)), rule(count("x", 2, 2), count("y", 2, 2))}, ofThing, []int{0, 1}, []int{0, 1}},
		{"the thing keeps its number", []api.Rule{rule(count("a", 0, 1)), rule(count("x", 5, 5)), rule(count("x", 6, 6)), rule(count("b", 0, 0))}, ofThing + 1, []int{1, 2}, []int{1, 2}},
		{"one that asks for too many of two", []api.Rule{rule(count("x", 9, 9)), rule(count("x", 0, 8)), rule(count("x", 0, 1000)), rule(count("x", 0, 7))}, ofThing, []int{0, 1}, []int{0}},
		{"none, and a thousand", []api.Rule{rule(count("x", 1000, 1000)), rule(count("x", 0, 999))}, ofThing, []int{0, 1}, []int{0, 1}},
		{"the least kind", []api.Rule{rule(count("x", 1, 1)), rule(season(365, 0)), rule(days(0)), rule(hours(1440, 0)), rule(forbid), rule(count("x", 2, 2))}, forbidden, []int{4}, nil},
		{"hours ahead of days", []api.Rule{rule(count("x", 1, 1), days(0)), rule(season(365, 0)), rule(hours(1440, 0))}, inHours, []int{2}, nil},
		{"days ahead of a season", []api.Rule{rule(season(365, 0)), rule(days(0))}, inDays, []int{1}, nil},
		{"a season ahead of a thing", []api.Rule{rule(count("x", 1, 1)), rule(count("x", 2, 2)), rule(season(365, 0))}, inSeason, []int{2}, nil},
		{"one in the way of all", []api.Rule{rule(hours(0, 5)), rule(hours(5, 0), days(2), count("x", 1, 1)), rule(days(1)), rule(count("x", 2, 2))}, inHours, []int{0, 1}, []int{1}},
		{"cures of one kind that are none of another one", []api.Rule{rule(hours(0, 5)), rule(hours(5, 0)), rule(days(0))}, inHours, []int{0, 1}, nil},
	} {
		l, trip := under(x.rules...), pass(1)
		kind, set, e := permit.Conflict(l, trip, 0)
		checkConflict(t, x.what, kind, set, e, x.kind, x.set, api.OK)
		want := api.OK
		if x.kind == none {
			want = api.ErrNone
		}
		cures, e := permit.Cures(l, trip, 0)
		check(t, "cures: "+x.what, cures, e, x.cures, want)
	}
}

// P8.8: the numbers are those of the permit's list, and only conditions of the passage count.
func TestConflictOfPassages(t *testing.T) {
	l := []api.Authority{
		{Name: "b", Rules: []api.Rule{rule(hours(7, 8)), rule(when(2, 1), forbid), rule(roads("y"), hours(8, 7))}},
		{Name: "a", Rules: []api.Rule{rule(roads("y"), forbid), rule(count("x", 1, 1))}},
	}
	trip := api.Trip{Passages: []api.Passage{
		{Authority: "a", Road: "x", Minutes: 1}, {Authority: "b", Road: "x", Minutes: 1}, {Authority: "a", Road: "y", Minutes: 1}, {Authority: "b", Road: "y", Minutes: 1},
	}}
	for i, x := range []struct {
		kind int
		set  []int
	}{{0, nil}, {0, nil}, {1, []int{2}}, {2, []int{4, 5}}} {
		kind, set, e := permit.Conflict(l, trip, i)
		checkConflict(t, "Conflict", kind, set, e, x.kind, x.set, api.OK)
		want := api.OK
		if x.kind == 0 {
			want = api.ErrNone
		}
		cures, e := permit.Cures(l, trip, i)
		check(t, "Cures", cures, e, x.set, want)
	}
}

// P8.8: as many things as there can be.
func TestConflictOfManyThings(t *testing.T) {
	var rules []api.Rule
	for i := range 24 {
		one := rule()
		for k := range 6 {
			count(string([]byte{'t', byte('a' + i), byte('a' + k)}), 1, 1)(&one)
		}
		rules = append(rules, one)
	}
	rules[2].Counts[3] = api.Count{Thing: "txf", Least: 2, Most: 2}
	kind, set, e := permit.Conflict(under(rules...), pass(1), 0)
	// Of the things of the first three rules, the 16th one is that of the last rule, too.
	checkConflict(t, "Conflict", kind, set, e, api.ConflictThing+15, []int{2, 23}, api.OK)
	cures, e := permit.Cures(under(rules...), pass(1), 0)
	check(t, "Cures", cures, e, []int{2, 23}, api.OK)
}

// P8.8, P8.11: the conditions of a conflict contradict each other; without any one of them the others do not, of this kind.
func TestConflictAny(t *testing.T) {
	r := chance(9)
	kinds := map[int]int{}
	large := 0
	for range 20000 {
		l, trip := anyPermit(r, 8)
		i := r.IntN(len(trip.Passages))
		rules, numbers := rulesOf(l, trip, i)
		wantKind, left := conflictOf(rules)
		var want []int
		for _, k := range left {
			want = append(want, numbers[k])
		}
		kind, set, e := permit.Conflict(l, trip, i)
		checkConflict(t, "Conflict", kind, set, e, wantKind, want, api.OK)
		kinds[min(kind, 6)]++
		if len(set) > 2 {
			large++
		}
		if kind == 0 {
			continue
		}
		var some []api.Rule
		for _, k := range left {
			some = append(some, rules[k])
		}
		if !doContradict(some, kind, thingsOf(rules)) {
			t.Fatalf("%v do not contradict each other", some)
		}
		for k := range some {
			if doContradict(without(some, k), kind, thingsOf(rules)) {
				t.Fatalf("%v contradict each other also without %d", some, k)
			}
		}
	}
	for kind := range 7 {
		if kinds[kind] < 20 {
			t.Errorf("%v", kinds)
		}
	}
	if large < 100 {
		t.Errorf("only %d large ones", large)
	}
}

// P8.8
func TestCuresAny(t *testing.T) {
	r := chance(10)
	found := map[int]int{}
	for range 10000 {
		l, trip := anyPermit(r, 8)
		i := r.IntN(len(trip.Passages))
		rules, numbers := rulesOf(l, trip, i)
		wantErr := api.ErrNone
		var want []int
		if kindOf(rules) != 0 {
			wantErr = api.OK
			for k := range rules {
				if kindOf(without(rules, k)) == 0 {
					want = append(want, numbers[k])
				}
			}
		}
		cures, e := permit.Cures(l, trip, i)
		check(t, "Cures", cures, e, want, wantErr)
		if e == api.OK {
			found[min(len(cures), 3)]++
		}
	}
	for n := range 4 {
		if found[n] < 20 {
			t.Errorf("%v", found)
		}
	}
}

// P8.11: the first one of the conditions that the conflict begins with is left out last.
func TestConflictLeavesOutTheLastFirst(t *testing.T) {
	rules := slices.Repeat([]api.Rule{rule(hours(0, 5)), rule(hours(5, 0))}, 12)
	kind, set, e := permit.Conflict(under(rules...), pass(1), 0)
	checkConflict(t, "Conflict", kind, set, e, api.ConflictHours, []int{0, 1}, api.OK)
}
