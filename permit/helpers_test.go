package permit_test

import (
	"math"
	"math/rand/v2"
	"reflect"
	"slices"
	"testing"

	"gooseneck/api"
)

// extremes are numbers at the limits of the chapter, one beyond them, and at the ends of the type.
var extremes = []int64{
	math.MinInt64, math.MinInt64 + 1, -1 << 40, -1 << 32, -1441, -1000, -2, -1, 0, 1, 2, 5, 6, 7, 8, 9, 16, 17, 20, 21, 24, 25,
	31, 32, 33, 126, 127, 128, 364, 365, 366, 400, 999, 1000, 1001, 1439, 1440, 1441, 10079, 10080, 10081, 14400, 14401,
	1 << 20, 1<<20 + 1, 1 << 30, 1<<30 + 1, 1 << 32, 1<<40 - 1, 1 << 40, 1<<40 + 1, math.MaxInt64 - 1, math.MaxInt64,
}

const day = api.DayMinutes

// chance returns numbers that look like chance, and are the same in each run.
func chance(seed uint64) *rand.Rand { return rand.New(rand.NewPCG(seed, 8)) }

// from returns a number from low to high.
func from(r *rand.Rand, low, high int64) int64 { return low + r.Int64N(high-low+1) }

// county is the authority of the chapter's examples.
func county() api.Authority {
	return api.Authority{Name: "county", Fee: 120, Notice: 2880, Rules: []api.Rule{
		{
			Name: "night", Roads: []string{"a1"}, Whens: []api.When{{Size: api.MeasureWidth, Least: 3500}},
			Hours: [2]int64{1320, 360}, Days: 127, Counts: []api.Count{{Thing: "escort", Least: 1, Most: 10}}, Cost: 30,
		},
		{
			Name: "day", Roads: []string{"a1"}, Whens: []api.When{{Size: api.MeasureWeight, Least: 60000}},
			Hours: [2]int64{360, 1200}, Days: 31,
		},
	}}
}

// ride is the trip of the chapter's examples, with a weight.
func ride(weight int64) api.Trip {
	return api.Trip{
		Sizes:    [6]int64{4200, 4000, weight, 9000, 30000, 15000},
		Passages: []api.Passage{{Authority: "county", Road: "a1", Minutes: 90}},
	}
}

// rule returns a rule that is for all passages, and allows and costs nothing else than it is made to.
func rule(make ...func(r *api.Rule)) api.Rule {
	r := api.Rule{Name: "r", Days: 127}
	for _, change := range make {
		change(&r)
	}
	return r
}

// What rules are made to.
func hours(from, to int64) func(r *api.Rule) {
	return func(r *api.Rule) { r.Hours = [2]int64{from, to} }
}
func days(bits int) func(r *api.Rule) { return func(r *api.Rule) { r.Days = bits } }
func season(from, to int64) func(r *api.Rule) {
	return func(r *api.Rule) { r.Season = [2]int64{from, to} }
}
func cost(n int64) func(r *api.Rule)      { return func(r *api.Rule) { r.Cost = n } }
func roads(l ...string) func(r *api.Rule) { return func(r *api.Rule) { r.Roads = l } }
func forbid(r *api.Rule)                  { r.Forbid = true }

func when(size int, least int64) func(r *api.Rule) {
	return func(r *api.Rule) { r.Whens = append(r.Whens, api.When{Size: size, Least: least}) }
}

func count(thing string, least, most int64) func(r *api.Rule) {
	return func(r *api.Rule) { r.Counts = append(r.Counts, api.Count{Thing: thing, Least: least, Most: most}) }
}

// under returns a list with an authority a that has some rules.
func under(rules ...api.Rule) []api.Authority { return []api.Authority{{Name: "a", Rules: rules}} }

// pass returns a trip of no size, over a road x of the authority a, for so many minutes each time.
func pass(minutes ...int64) api.Trip {
	var t api.Trip
	for _, m := range minutes {
		t.Passages = append(t.Passages, api.Passage{Authority: "a", Road: "x", Minutes: m})
	}
	return t
}

// things returns as many of each thing as a list says.
func things(of string, n int64) []api.Count { return []api.Count{{Thing: of, Least: n}} }

func cloneOf(a api.Authority) api.Authority {
	a.Rules = slices.Clone(a.Rules)
	for i := range a.Rules {
		r := &a.Rules[i]
		r.Roads, r.Whens, r.Counts = slices.Clone(r.Roads), slices.Clone(r.Whens), slices.Clone(r.Counts)
	}
	return a
}

func clone(l []api.Authority) []api.Authority {
	l = slices.Clone(l)
	for i := range l {
		l[i] = cloneOf(l[i])
	}
	return l
}

func cloneTrip(t api.Trip) api.Trip {
	t.Passages = slices.Clone(t.Passages)
	return t
}

// without returns a list without the element at an index.
func without[T any](l []T, i int) []T { return slices.Delete(slices.Clone(l), i, i+1) }

// pick returns one of some things.
func pick[T any](r *rand.Rand, l ...T) T { return l[r.IntN(len(l))] }

var words = []string{"a", "b", "c", "x", "y", "z", "0", "a1", "abcdefghijklmnopqrst"}

// anyRule returns a valid rule. There are few roads, sizes and things, so that many are for a passage, and contradict.
func anyRule(r *rand.Rand) api.Rule {
	made := rule()
	made.Name = pick(r, words...)
	for range max(0, r.IntN(6)-3) {
		made.Roads = append(made.Roads, pick(r, "x", "y", "z"))
	}
	for range max(0, r.IntN(5)-2) {
		made.Whens = append(made.Whens, api.When{Size: r.IntN(6), Least: from(r, 0, 4)})
	}
	if r.IntN(2) == 0 {
		made.Hours = pick(r, [2]int64{from(r, 0, 1440), from(r, 0, 1440)}, [2]int64{120 * from(r, 0, 12), 120 * from(r, 0, 12)})
	}
	if r.IntN(3) == 0 {
		made.Days = r.IntN(128)
	}
	if r.IntN(3) == 0 {
		made.Season = [2]int64{from(r, 0, 365), from(r, 0, 365)}
	}
	made.Forbid = r.IntN(15) == 0
	for range max(0, r.IntN(5)-2) {
		least := from(r, 0, 4)
		made.Counts = append(made.Counts, api.Count{Thing: pick(r, "b", "c", "z"), Least: least, Most: pick(r, from(r, least, 5), 1000)})
	}
	if r.IntN(2) == 0 {
		made.Cost = from(r, 0, 100)
	}
	return made
}

// anyAuthority returns a valid authority with up to so many rules.
func anyAuthority(r *rand.Rand, name string, rules int64) api.Authority {
	a := api.Authority{Name: name, Fee: from(r, 0, 1000), Notice: from(r, 0, 100)}
	for range from(r, 0, rules) {
		a.Rules = append(a.Rules, anyRule(r))
	}
	return a
}

// anyPermit returns a valid list of authorities, and a valid trip that names some of them.
func anyPermit(r *rand.Rand, rules int64) ([]api.Authority, api.Trip) {
	var l []api.Authority
	for _, name := range []string{"a", "b", "c"}[:1+r.IntN(3)] {
		l = append(l, anyAuthority(r, name, rules))
	}
	r.Shuffle(len(l), func(i, k int) { l[i], l[k] = l[k], l[i] })
	var t api.Trip
	for i := range t.Sizes {
		t.Sizes[i] = from(r, 0, 5)
	}
	for range from(r, 1, 3) {
		minutes := pick(r, from(r, 1, 10), from(r, 10, 300), from(r, 1000, 10080))
		t.Passages = append(t.Passages, api.Passage{Authority: l[r.IntN(len(l))].Name, Road: pick(r, "x", "y", "z"), Minutes: minutes})
	}
	return l, t
}

// anyMinute returns a minute; many of them are at the beginning or the end of a day.
func anyMinute(r *rand.Rand) int64 {
	return pick(r, from(r, 0, 1<<from(r, 4, 40)), from(r, 0, 3000)*day, from(r, 0, 3000)*day+day-1, from(r, 0, 3000)*30)
}

// anyThings returns up to 6 things with how many there are; some are there twice.
func anyThings(r *rand.Rand) []api.Count {
	var l []api.Count
	for range r.IntN(5) {
		l = append(l, api.Count{Thing: pick(r, "b", "c", "z"), Least: from(r, 0, 5), Most: pick(r, extremes...)})
	}
	return l
}

// same reports whether two values are the same; a nil list is the same as an empty one.
func same(a, b any) bool { return shown(a) == shown(b) }

// must returns the result of a call that has no error.
func must[T any](t *testing.T, what string) func(T, api.Errno) T {
	return func(got T, e api.Errno) T {
		t.Helper()
		if e != api.OK {
			t.Fatalf("%s: error %d", what, e)
		}
		return got
	}
}

// check reports a result with its error, if they are not as they should be.
func check[T any](t *testing.T, what string, got T, e api.Errno, want T, wantErr api.Errno) {
	t.Helper()
	if !same(got, want) || e != wantErr {
		t.Errorf("%s: %v, %d, want %v, %d", what, got, e, want, wantErr)
	}
}

// checkConflict reports a conflict with its error, if they are not as they should be.
func checkConflict(t *testing.T, what string, kind int, got []int, e api.Errno, wantKind int, want []int, wantErr api.Errno) {
	t.Helper()
	if kind != wantKind || !slices.Equal(got, want) || e != wantErr {
		t.Errorf("%s: %d, %v, %d, want %d, %v, %d", what, kind, got, e, wantKind, want, wantErr)
	}
}

// checkErr reports an error that is not the one it should be.
func checkErr(t *testing.T, what string, got, want api.Errno) {
	t.Helper()
	if got != want {
		t.Errorf("%s: error %d, want %d", what, got, want)
	}
}

// spoil clears all lists of a value, with what is behind their ends.
func spoil(v reflect.Value) {
	switch v.Kind() {
	case reflect.Slice:
		for whole := v.Slice(0, v.Cap()); whole.Len() > 0; whole = whole.Slice(1, whole.Len()) {
			spoil(whole.Index(0))
			whole.Index(0).SetZero()
		}
	case reflect.Struct:
		for i := range v.NumField() {
			spoil(v.Field(i))
		}
	}
}
