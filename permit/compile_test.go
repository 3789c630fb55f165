package permit_test

import (
	"slices"
	"testing"

	"gooseneck/api"
	"gooseneck/permit"
)

// The examples of the chapter.
func TestExamples(t *testing.T) {
	l, trip := []api.Authority{county()}, ride(40000)
	p, e := permit.Compile(l, trip)
	check(t, "Compile", p, e, api.Permit{Conditions: []api.Condition{{}}, Fee: 150, Notice: 2880}, api.OK)
	for _, x := range []struct {
		at   int64
		want bool
	}{{1319, false}, {1320, true}, {359, true}, {360, false}} {
		ok, e := permit.Allowed(l, trip, 0, x.at)
		check(t, "Allowed", ok, e, x.want, api.OK)
	}
	for _, x := range [][2]int64{{0, 0}, {271, 1320}, {1400, 1400}} {
		n, e := permit.Next(l, trip, 0, x[0])
		check(t, "Next", n, e, x[1], api.OK)
	}
	w, e := permit.Windows(l, trip, 0, 0, 2880)
	check(t, "Windows", w, e, []api.Window{{From: 0, To: 360}, {From: 1320, To: 1800}, {From: 2760, To: 2880}}, api.OK)
	b, e := permit.Broken(l, trip, 0, api.Crossing{Start: 300})
	check(t, "Broken", b, e, []int{0}, api.OK)
	kind, c, e := permit.Conflict(l, trip, 0)
	checkConflict(t, "Conflict", kind, c, e, api.ConflictNone, nil, api.OK)
	kind, c, e = permit.Conflict(l, ride(60000), 0)
	checkConflict(t, "Conflict of a heavy one", kind, c, e, api.ConflictHours, []int{0, 1}, api.OK)
	c, e = permit.Cures(l, ride(60000), 0)
	check(t, "Cures of a heavy one", c, e, []int{0, 1}, api.OK)
}

// P8.3
func TestCompile(t *testing.T) {
	a := api.Authority{Name: "a", Fee: 1, Notice: 7, Rules: []api.Rule{
		rule(cost(10)), rule(roads("y", "x"), cost(100)), rule(roads("z"), cost(1000)), rule(when(1, 5), when(0, 3), cost(10000)),
	}}
	b := api.Authority{Name: "b", Fee: 2, Notice: 9, Rules: []api.Rule{rule(roads("x"))}}
	c := api.Authority{Name: "c", Fee: 4, Notice: 99, Rules: []api.Rule{rule(cost(7))}}
	over := func(sizes [6]int64, names ...string) api.Trip {
		trip := api.Trip{Sizes: sizes}
		for _, s := range names {
			trip.Passages = append(trip.Passages, api.Passage{Authority: s[:1], Road: s[1:], Minutes: 1})
		}
		return trip
	}
	at := func(passage, authority, rule int) api.Condition {
		return api.Condition{Passage: passage, Authority: authority, Rule: rule}
	}
	none := [6]int64{}
	for _, x := range []struct {
		what string
		trip api.Trip
		want api.Permit
	}{
		{"a rule of all roads, and one of a road", over(none, "ax"), api.Permit{Conditions: []api.Condition{at(0, 2, 0), at(0, 2, 1)}, Fee: 111, Notice: 7}},
		{"a rule of another road", over(none, "az"), api.Permit{Conditions: []api.Condition{at(0, 2, 0), at(0, 2, 2)}, Fee: 1011, Notice: 7}},
		{"a road that no rule names", over(none, "aw"), api.Permit{Conditions: []api.Condition{at(0, 2, 0)}, Fee: 11, Notice: 7}},
		{"the sizes that a rule is from", over([6]int64{3, 5}, "aw"), api.Permit{Conditions: []api.Condition{at(0, 2, 0), at(0, 2, 3)}, Fee: 10011, Notice: 7}},
		{"sizes of which the first is too small", over([6]int64{2, 9, 9, 9, 9, 9}, "aw"), api.Permit{Conditions: []api.Condition{at(0, 2, 0)}, Fee: 11, Notice: 7}},
		{"sizes of which the second is too small", over([6]int64{9, 4, 9, 9, 9, 9}, "aw"), api.Permit{Conditions: []api.Condition{at(0, 2, 0)}, Fee: 11, Notice: 7}},
		{"no conditions", over(none, "by"), api.Permit{Fee: 2, Notice: 9}},
		{"a rule without a cost", over(none, "bx"), api.Permit{Conditions: []api.Condition{at(0, 0, 0)}, Fee: 2, Notice: 9}},
		{"an authority twice, and a road twice", over(none, "ax", "bx", "ax"), api.Permit{
			Conditions: []api.Condition{at(0, 2, 0), at(0, 2, 1), at(1, 0, 0), at(2, 2, 0), at(2, 2, 1)}, Fee: 223, Notice: 9,
		}},
		{"the greatest notice first", over(none, "bx", "ax"), api.Permit{Conditions: []api.Condition{at(0, 0, 0), at(1, 2, 0), at(1, 2, 1)}, Fee: 113, Notice: 9}},
		{"all authorities", over(none, "cx", "bx", "aw"), api.Permit{Conditions: []api.Condition{at(0, 1, 0), at(1, 0, 0), at(2, 2, 0)}, Fee: 24, Notice: 99}},
	} {
		p, e := permit.Compile([]api.Authority{b, c, a}, x.trip)
		check(t, x.what, p, e, x.want, api.OK)
	}
}

// P8.3: at all limits together.
func TestCompileMost(t *testing.T) {
	var l []api.Authority
	for i := range 8 {
		l = append(l, api.Authority{Name: string(rune('a' + i)), Fee: 1 << 30, Notice: 1 << 20, Rules: slices.Repeat([]api.Rule{rule(cost(1 << 30))}, 24)})
	}
	var trip api.Trip
	for i := range 24 {
		trip.Passages = append(trip.Passages, api.Passage{Authority: l[i%8].Name, Road: "x", Minutes: 10080})
	}
	p, e := permit.Compile(l, trip)
	if e != api.OK || len(p.Conditions) != 24*24 || p.Fee != (8+24*24)<<30 || p.Notice != 1<<20 {
		t.Errorf("%d conditions, %d, %d, error %d", len(p.Conditions), p.Fee, p.Notice, e)
	}
	if n, e := permit.Next(l, trip, 23, 1<<40); n != 1<<40 || e != api.OK {
		t.Errorf("%d, %d", n, e)
	}
}

// P8.3
func TestCompileAny(t *testing.T) {
	r := chance(3)
	conditions := 0
	for range 5000 {
		l, trip := anyPermit(r, 6)
		want := permitOf(l, trip)
		p, e := permit.Compile(l, trip)
		check(t, "Compile", p, e, want, api.OK)
		conditions += len(want.Conditions)
	}
	if conditions < 5000 {
		t.Errorf("only %d conditions", conditions)
	}
}
