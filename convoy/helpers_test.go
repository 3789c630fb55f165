package convoy_test

import (
	"fmt"
	"math"
	"math/rand/v2"
	"reflect"
	"slices"
	"strings"
	"testing"

	"gooseneck/api"
	"gooseneck/convoy"
	"gooseneck/permit"
)

// extremes are numbers at the limits of the chapter, one beyond them, and at the ends of the type.
var extremes = []int64{
	math.MinInt64, math.MinInt64 + 1, -1 << 40, -1<<24 - 1, -1 << 24, -2, -1, 0, 1, 2, 5, 6, 7, 15, 16, 17, 255, 256, 257, 399, 400,
	401, 999, 1000, 1001, 1440, 10079, 10080, 10081, 1 << 24, 1<<24 + 1, 1 << 32, 1<<40 - 10080, 1<<40 - 1, 1 << 40, 1<<40 + 1,
	math.MaxInt64 - 10080, math.MaxInt64 - 1, math.MaxInt64,
}

const (
	day      = api.DayMinutes
	greatest = 1 << 40 // time
)

var (
	longName    = strings.Repeat("z", 20)
	tooLongName = strings.Repeat("z", 21)
	badNames    = []string{"", "A", "a b", " a", "a ", "a\n", "ä", "-", tooLongName}
)

// chance returns numbers that look like chance, and are the same in each run.
func chance(seed uint64) *rand.Rand { return rand.New(rand.NewPCG(seed, 10)) }

// from returns a number from low to high.
func from(r *rand.Rand, low, high int64) int64 { return low + r.Int64N(high-low+1) }

// pick returns one of some things.
func pick[T any](r *rand.Rand, l ...T) T { return l[r.IntN(len(l))] }

// shown is a value as a text; a nil list and an empty one have the same.
func shown(x any) string { return fmt.Sprintf("%v", x) }

// check reports a result with its error, if they are not as they should be.
func check[T any](t *testing.T, what string, got T, e api.Errno, want T, wantErr api.Errno) {
	t.Helper()
	if shown(got) != shown(want) || e != wantErr {
		t.Errorf("%s: %v, %d, want %v, %d", what, got, e, want, wantErr)
	}
}

// checkSame reports a value that is not as it should be.
func checkSame(t *testing.T, what string, got, want any) {
	t.Helper()
	if shown(got) != shown(want) {
		t.Errorf("%s: %v, want %v", what, got, want)
	}
}

// rule returns a rule that is for all passages, and allows all that it is not made to forbid.
func rule(make ...func(r *api.Rule)) api.Rule {
	r := api.Rule{Name: "r", Days: 127}
	for _, change := range make {
		change(&r)
	}
	return r
}

// What rules are made to.
func hours(from, to int64) func(r *api.Rule) {
	return func(r *api.Rule) { r.Hours = [2]int64{from, to} }
}
func days(bits int) func(r *api.Rule) { return func(r *api.Rule) { r.Days = bits } }
func season(from, to int64) func(r *api.Rule) {
	return func(r *api.Rule) { r.Season = [2]int64{from, to} }
}
func roads(l ...string) func(r *api.Rule) { return func(r *api.Rule) { r.Roads = l } }
func forbid(r *api.Rule)                  { r.Forbid = true }

func count(thing string, least, most int64) func(r *api.Rule) {
	return func(r *api.Rule) { r.Counts = append(r.Counts, api.Count{Thing: thing, Least: least, Most: most}) }
}

// under returns a list with an authority a that has some rules.
func under(rules ...api.Rule) []api.Authority { return []api.Authority{{Name: "a", Rules: rules}} }

// over returns a trip of the authority a over some roads, for so many minutes each time.
func over(minutes int64, roads ...string) api.Trip {
	var t api.Trip
	for _, road := range roads {
		t.Passages = append(t.Passages, api.Passage{Authority: "a", Road: road, Minutes: minutes})
	}
	return t
}

// some returns things, in pairs of a name and a number.
func some(l ...any) []api.Count {
	var c []api.Count
	for i := 0; i < len(l); i += 2 {
		c = append(c, api.Count{Thing: l[i].(string), Least: int64(l[i+1].(int))})
	}
	return c
}

// planOf returns crossings with some things, at some starts.
func planOf(things []api.Count, starts ...int64) []api.Crossing {
	var l []api.Crossing
	for _, s := range starts {
		l = append(l, api.Crossing{Start: s, Things: slices.Clone(things)})
	}
	return l
}

// start returns a convoy, asked for at 0.
func start(t *testing.T, l []api.Authority, trip api.Trip, plan []api.Crossing) *convoy.Convoy {
	t.Helper()
	c, e := convoy.New(l, trip, 0, plan)
	if e != api.OK || c == nil {
		t.Fatalf("New: %v, %d", c, e)
	}
	return c
}

// The reports of each kind.
func begin(at int64) api.Report   { return api.Report{At: at, Kind: api.ReportBegin} }
func end(at int64) api.Report     { return api.Report{At: at, Kind: api.ReportEnd} }
func hold(at, n int64) api.Report { return api.Report{At: at, Kind: api.ReportHold, N: n} }
func nothing(at int64) api.Report { return api.Report{At: at, Kind: api.ReportNothing} }

func thing(at int64, name string, n int64) api.Report {
	return api.Report{At: at, Kind: api.ReportThing, Name: name, N: n}
}

func shut(at int64, road string, from, to int64) api.Report {
	return api.Report{At: at, Kind: api.ReportClose, Name: road, From: from, To: to}
}

// deviation is a deviation of a report, in a passage.
func deviation(report, passage, kind int, minutes int64, conditions ...int) api.Deviation {
	return api.Deviation{Report: report, Kind: kind, Passage: passage, Minutes: minutes, Conditions: conditions}
}

// tell gives reports to a convoy that it has to take.
func tell(t *testing.T, c *convoy.Convoy, l ...api.Report) {
	t.Helper()
	for _, r := range l {
		if d, e := c.Report(r); e != api.OK {
			t.Fatalf("Report of %v: %v, %d", r, d, e)
		}
	}
}

// state is all that a convoy tells of itself.
type state struct {
	Time       int64
	Next       int
	Moving     bool
	Done       bool
	Things     []api.Count
	Plan       []api.Crossing
	Deviations []api.Deviation
	Free       int64
}

func stateOf(c *convoy.Convoy) state {
	return state{c.Time(), c.Next(), c.Moving(), c.Done(), c.Things(), c.Plan(), c.Deviations(), c.Free()}
}

// proposal is what Replan returns but its error.
type proposal struct {
	Passage int
	Plan    []api.Crossing
}

func replan(c *convoy.Convoy) (proposal, api.Errno) {
	n, l, e := c.Replan()
	return proposal{n, l}, e
}

func cloneAll(l []api.Authority) []api.Authority {
	l = slices.Clone(l)
	for i := range l {
		l[i].Rules = slices.Clone(l[i].Rules)
		for k := range l[i].Rules {
			r := &l[i].Rules[k]
			r.Roads, r.Whens, r.Counts = slices.Clone(r.Roads), slices.Clone(r.Whens), slices.Clone(r.Counts)
		}
	}
	return l
}

func cloneTrip(t api.Trip) api.Trip {
	t.Passages = slices.Clone(t.Passages)
	return t
}

func clonePlan(l []api.Crossing) []api.Crossing {
	l = slices.Clone(l)
	for i := range l {
		l[i].Things = slices.Clone(l[i].Things)
	}
	return l
}

// spoil clears all lists of a value, with what is behind their ends.
func spoil(v reflect.Value) {
	switch v.Kind() {
	case reflect.Slice:
		for whole := v.Slice(0, v.Cap()); whole.Len() > 0; whole = whole.Slice(1, whole.Len()) {
			spoil(whole.Index(0))
			whole.Index(0).SetZero()
		}
	case reflect.Struct:
		for i := range v.NumField() {
			spoil(v.Field(i))
		}
	}
}

// anyRule returns a valid rule. There are few roads and things, so that many are for a passage, and are broken.
func anyRule(r *rand.Rand) api.Rule {
	made := rule()
	for range max(0, r.IntN(5)-3) {
		made.Roads = append(made.Roads, pick(r, "x", "y"))
	}
	switch r.IntN(9) {
	case 0, 1:
		made.Hours = [2]int64{60 * from(r, 0, 24), 60 * from(r, 0, 24)}
	case 2, 3:
		made.Days = r.IntN(128)
	case 4:
		made.Season = [2]int64{from(r, 0, 365), from(r, 0, 365)}
	case 5:
		made.Whens = []api.When{{Size: r.IntN(6), Least: from(r, 0, 4)}}
		made.Forbid = true
	default:
		made.Counts = []api.Count{{Thing: pick(r, "b", "c"), Least: from(r, 0, 2), Most: from(r, 2, 4)}}
	}
	return made
}

// anyTrip returns valid authorities with up to so many rules, and a trip of up to 4 passages that they are for.
func anyTrip(r *rand.Rand, rules int) ([]api.Authority, api.Trip) {
	var l []api.Authority
	for _, name := range []string{"a", "b"}[:1+r.IntN(2)] {
		a := api.Authority{Name: name, Notice: from(r, 0, 100)}
		for range r.IntN(rules + 1) {
			a.Rules = append(a.Rules, anyRule(r))
		}
		l = append(l, a)
	}
	var t api.Trip
	for i := range t.Sizes {
		t.Sizes[i] = from(r, 0, 3)
	}
	for range from(r, 1, 4) {
		minutes := pick(r, from(r, 1, 10), from(r, 10, 300), from(r, 10, 300), from(r, 1000, 10080))
		t.Passages = append(t.Passages, api.Passage{Authority: l[r.IntN(len(l))].Name, Road: pick(r, "x", "y"), Minutes: minutes})
	}
	return l, t
}

// anyThings returns up to 6 things with how many there are; some are there twice.
func anyThings(r *rand.Rand) []api.Count {
	var l []api.Count
	for range r.IntN(5) {
		l = append(l, api.Count{Thing: pick(r, "b", "c", "d"), Least: from(r, 0, 4), Most: pick(r, extremes...)})
	}
	return l
}

// anyPlan returns authorities, a trip and a plan that Trips accepts for it, asked for at 0.
func anyPlan(r *rand.Rand) ([]api.Authority, api.Trip, []api.Crossing) {
	for {
		l, t := anyTrip(r, 4)
		free := from(r, 0, pick(r, int64(3000), int64(3000), 400*day, 1<<39))
		var plan []api.Crossing
		e := api.OK
		for i := 0; i < len(t.Passages) && e == api.OK; i++ {
			x := api.Crossing{Things: pick(r, anyThings(r), some("c", 1, "b", 2), some("b", 2, "c", 2, "b", 0))}
			x.Start, e = permit.Next(l, t, i, free)
			plan = append(plan, x)
			free = x.Start + t.Passages[i].Minutes + from(r, 0, 50)
		}
		if _, e := permit.Trips(l, t, 0, plan); e == api.OK {
			return l, t, plan
		}
	}
}

// anyConvoy returns a convoy, and its model.
func anyConvoy(t *testing.T, r *rand.Rand) (*convoy.Convoy, *model) {
	l, trip, plan := anyPlan(r)
	return start(t, l, trip, plan), modelOf(l, trip, plan)
}

// anyReport returns a report to a convoy; most of them are taken.
func anyReport(r *rand.Rand, m *model) api.Report {
	x := api.Report{At: m.time + max(0, from(r, -10, 10)), N: from(r, -10, 10), Name: pick(r, "x", "y"), From: from(r, 0, 10), To: from(r, 0, 10)}
	x.Kind = pick(r, api.ReportHold, api.ReportThing, api.ReportThing, api.ReportClose, api.ReportNothing)
	switch {
	case r.IntN(20) == 0:
		x.Kind = r.IntN(8)
	case m.isMoving && r.IntN(3) == 0:
		x.Kind, x.At = api.ReportEnd, m.free()+pick(r, 0, 0, from(r, -50, 50), from(r, 0, pick(r, int64(1000), 20*day, 400*day)))
	case !m.isMoving && m.next < len(m.plan) && r.IntN(2) == 0:
		x.Kind, x.At = api.ReportBegin, pick(r, max(m.time, m.plan[m.next].Start), m.time, m.free(), m.time+from(r, 0, 2*day))
	}
	switch x.Kind {
	case api.ReportHold:
		x.N = pick(r, from(r, 1, 100), from(r, 1, 10080))
	case api.ReportThing:
		x.Name, x.N = pick(r, "b", "c", "d", "e"), from(r, 0, 4)
	case api.ReportClose:
		x.From = m.time + from(r, -min(m.time, 100), pick(r, int64(100), 2000))
		x.To = x.From + from(r, 1, pick(r, int64(100), 5000, 1000*day))
	}
	switch r.IntN(30) {
	case 0:
		x.N = pick(r, extremes...)
	case 1:
		x.Name = pick(r, append(badNames, longName, "0")...)
	case 2:
		x.From, x.To = pick(r, x.From, pick(r, extremes...)), pick(r, extremes...)
	case 3:
		x.At = pick(r, m.time-1, m.began, pick(r, extremes[:30]...))
	}
	return x
}
