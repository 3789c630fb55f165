package permit_test

import (
	"fmt"
	"math/rand/v2"
	"reflect"
	"slices"
	"testing"

	"gooseneck/api"
	"gooseneck/permit"
)

// hand is arguments for any function of the package.
type hand struct {
	a        api.Authority
	s        string
	l        []api.Authority
	t        api.Trip
	passage  int
	at, to   int64
	crossing api.Crossing
	all      []api.Crossing
}

func (h hand) clone() hand {
	h.a, h.l, h.t = cloneOf(h.a), clone(h.l), cloneTrip(h.t)
	h.crossing.Things = slices.Clone(h.crossing.Things)
	h.all = slices.Clone(h.all)
	for i := range h.all {
		h.all[i].Things = slices.Clone(h.all[i].Things)
	}
	return h
}

// shown is a value as a text; a nil list and an empty one have the same.
func shown(x any) string { return fmt.Sprintf("%v", x) }

// answer is what a call returns.
type answer struct {
	value any
	err   api.Errno
}

func (a answer) same(b answer) bool { return shown(a) == shown(b) }

// zero reports whether the result beside the error is a zero value.
func (a answer) zero() bool { return shown(a.value) == shown(reflect.Zero(reflect.TypeOf(a.value))) }

// of returns what a call returns as an answer.
func of[T any](value T, e api.Errno) answer { return answer{value, e} }

// clash is a kind of a conflict, with its conditions.
type clash struct {
	Kind int
	Set  []int
}

func ofBoth(kind int, set []int, e api.Errno) answer { return answer{clash{kind, set}, e} }

// onPassage are the functions of the package that take a passage.
func onPassage() map[string]func(h hand) answer {
	return map[string]func(h hand) answer{
		"Allowed":  func(h hand) answer { return of(permit.Allowed(h.l, h.t, h.passage, h.at)) },
		"Next":     func(h hand) answer { return of(permit.Next(h.l, h.t, h.passage, h.at)) },
		"Windows":  func(h hand) answer { return of(permit.Windows(h.l, h.t, h.passage, h.at, h.to)) },
		"Broken":   func(h hand) answer { return of(permit.Broken(h.l, h.t, h.passage, h.crossing)) },
		"Conflict": func(h hand) answer { return ofBoth(permit.Conflict(h.l, h.t, h.passage)) },
		"Cures":    func(h hand) answer { return of(permit.Cures(h.l, h.t, h.passage)) },
	}
}

// onTrip are the functions of the package that take a list and a trip.
func onTrip() map[string]func(h hand) answer {
	all := onPassage()
	all["Compile"] = func(h hand) answer { return of(permit.Compile(h.l, h.t)) }
	all["Trips"] = func(h hand) answer { return of(permit.Trips(h.l, h.t, h.at, h.all)) }
	return all
}

// calls are all functions of the package.
func calls() map[string]func(h hand) answer {
	all := onTrip()
	all["Check"] = func(h hand) answer { return of(0, permit.Check(h.a)) }
	all["Text"] = func(h hand) answer { return of(permit.Text(h.a)) }
	all["Parse"] = func(h hand) answer { return of(permit.Parse(h.s)) }
	all["CheckAll"] = func(h hand) answer { return of(0, permit.CheckAll(h.l)) }
	all["CheckTrip"] = func(h hand) answer { return of(0, permit.CheckTrip(h.t)) }
	return all
}

// anyText returns a text, of which a byte may be another one.
func anyText(r *rand.Rand) string {
	s, _ := permit.Text(anyAuthority(r, "a", 3))
	b := []byte(s)
	if r.IntN(2) == 0 {
		b[r.IntN(len(b))] = pick(r, []byte(" \n01ax\x00\xff")...)
	}
	return string(b)
}

// deal returns arguments of which many are at a limit, or beyond it.
func deal(r *rand.Rand) hand {
	l, trip := anyPermit(r, 3)
	h := hand{
		a: anyAuthority(r, "a", 3), s: anyText(r), l: l, t: trip, passage: r.IntN(len(trip.Passages)), at: anyMinute(r),
		crossing: api.Crossing{Start: anyMinute(r), Things: anyThings(r)},
	}
	h.to = h.at + from(r, 0, 14400)
	for i := range trip.Passages {
		h.all = append(h.all, api.Crossing{Start: h.at + 2000 + int64(i)*20000, Things: anyThings(r)})
	}
	numbers := []*int64{&h.at, &h.to, &h.crossing.Start, &h.all[0].Start, &h.t.Sizes[r.IntN(6)], &h.t.Passages[0].Minutes, &h.l[0].Fee, &h.l[0].Notice}
	indexes := []*int{&h.passage}
	names := []*string{&h.a.Name, &h.l[0].Name, &h.t.Passages[0].Authority, &h.t.Passages[0].Road}
	for _, a := range append([]api.Authority{h.a}, h.l...) {
		for i := range a.Rules {
			one := &a.Rules[i]
			numbers = append(numbers, &one.Hours[0], &one.Hours[1], &one.Season[0], &one.Season[1], &one.Cost)
			indexes, names = append(indexes, &one.Days), append(names, &one.Name)
			for k := range one.Whens {
				numbers, indexes = append(numbers, &one.Whens[k].Least), append(indexes, &one.Whens[k].Size)
			}
			for k := range one.Counts {
				numbers, names = append(numbers, &one.Counts[k].Least, &one.Counts[k].Most), append(names, &one.Counts[k].Thing)
			}
		}
	}
	for range r.IntN(3) {
		*numbers[r.IntN(len(numbers))] = pick(r, extremes...)
	}
	if r.IntN(3) == 0 {
		*indexes[r.IntN(len(indexes))] = int(pick(r, extremes...))
	}
	if r.IntN(4) == 0 {
		*names[r.IntN(len(names))] = pick(r, append(badNames, "b", "a", longName)...)
	}
	return h
}

// P1, R2, R5, R6, R10: each function ends and does not panic for all arguments; it changes none of them; it returns zero
// values with an error, but the number that Trips returns, and the same if it is called again.
func TestAnyArguments(t *testing.T) {
	r := chance(22)
	fine := map[string]int{}
	for range 4000 {
		h := deal(r)
		for what, call := range calls() {
			before := h.clone()
			a := call(h)
			if shown(h) != shown(before) {
				t.Fatalf("%s has changed an argument", what)
			}
			if a.err != api.OK && !a.zero() && what != "Trips" {
				t.Errorf("%s of %v: %v", what, before, a)
			}
			if a.err == api.OK {
				fine[what]++
			}
			if again := call(before); !again.same(a) {
				t.Errorf("%s of %v: %v, and then %v", what, before, a, again)
			}
		}
	}
	for what := range calls() {
		if fine[what] < 100 {
			t.Errorf("%s has ended without an error only %d times", what, fine[what])
		}
	}
}

// wrong is what can be wrong with arguments, and the error for it.
type wrong struct {
	what string
	make func(h *hand)
	want api.Errno
}

// wrongs are what can be wrong with a list of authorities, with a trip, and with both together.
func wrongs() [][]wrong {
	return [][]wrong{
		{
			{"no authorities", func(h *hand) { h.l = nil }, api.ErrMany},
			{"9 authorities", func(h *hand) { h.l = slices.Repeat(h.l[:1], 9) }, api.ErrMany},
			{"an authority with 25 rules", func(h *hand) { h.l[1].Rules = make([]api.Rule, 25) }, api.ErrMany},
			{"an authority that is not valid", func(h *hand) { h.l[0].Fee = -1 }, api.ErrArg},
			{"two authorities of a name", func(h *hand) { h.l[1] = h.l[0] }, api.ErrHave},
		},
		{
			{"no passages", func(h *hand) { h.t.Passages = nil }, api.ErrMany},
			{"25 passages", func(h *hand) { h.t.Passages = slices.Repeat(h.t.Passages[:1], 25) }, api.ErrMany},
			{"a size below 0", func(h *hand) { h.t.Sizes[5] = -1 }, api.ErrArg},
			{"a passage without minutes", func(h *hand) { h.t.Passages[0].Minutes = 0 }, api.ErrArg},
		},
		{
			{"a passage of another authority", func(h *hand) { h.t.Passages[1].Authority = "c" }, api.ErrNone},
		},
	}
}

// fair returns arguments that are right for all functions.
func fair() hand {
	l := []api.Authority{{Name: "a", Rules: []api.Rule{rule(hours(0, 60)), rule(hours(60, 0))}}, {Name: "b"}}
	t := api.Trip{Passages: []api.Passage{{Authority: "a", Road: "x", Minutes: 1}, {Authority: "b", Road: "x", Minutes: 1}}}
	return hand{a: l[0], s: "authority a 0 0\n", l: l, t: t, to: 1, all: []api.Crossing{{}, {}}}
}

// Functions with a list of authorities return the error of CheckAll, and those with a trip then that of CheckTrip, before all
// others; then ErrNone; then come the errors of the passage.
func TestErrorsInOrder(t *testing.T) {
	worse := func(h *hand) {
		h.passage, h.at, h.to, h.all = 2, -1, -1, nil
		h.crossing = api.Crossing{Start: -1, Things: make([]api.Count, 7)}
	}
	nothing := wrong{"nothing", func(h *hand) {}, api.OK}
	for part, l := range wrongs() {
		for _, x := range l {
			for _, y := range append(slices.Concat(wrongs()[part+1:]...), nothing) {
				h := fair()
				worse(&h)
				y.make(&h)
				x.make(&h)
				for what, call := range onTrip() {
					if a := call(h); a.err != x.want || !a.zero() {
						t.Errorf("%s with %s and %s: %v, want %d", what, x.what, y.what, a, x.want)
					}
				}
			}
		}
	}
	for what, call := range onPassage() {
		for _, passage := range []int{-1, 2, 24, int(extremes[0]), int(extremes[len(extremes)-1])} {
			h := fair()
			worse(&h)
			h.passage = passage
			if a := call(h); a.err != api.ErrRange || !a.zero() {
				t.Errorf("%s of the passage %d: %v", what, passage, a)
			}
		}
	}
}

// A passage of another authority is looked for in all passages, and in the list as a whole.
func TestErrNone(t *testing.T) {
	h := fair()
	for i := range h.t.Passages {
		other := h.clone()
		other.t.Passages[i].Authority = "aa"
		for what, call := range onTrip() {
			if a := call(other); a.err != api.ErrNone {
				t.Errorf("%s: %v", what, a)
			}
		}
	}
	h.t.Passages[0], h.t.Passages[1] = h.t.Passages[1], h.t.Passages[0]
	for what, call := range onTrip() {
		if a := call(h); a.err == api.ErrNone && what != "Cures" {
			t.Errorf("%s: %v", what, a)
		}
	}
}

// The errors of minutes.
func TestErrorsOfMinutes(t *testing.T) {
	for _, n := range extremes {
		h := fair()
		h.t.Passages[0].Authority = "b"
		h.at, h.to, h.crossing.Start = n, n, n
		h.all[0].Start, h.all[1].Start = n, n
		isIn := 0 <= n && n <= 1<<40
		for what, inside := range map[string]api.Errno{"Allowed": api.OK, "Next": api.OK, "Windows": api.ErrArg, "Broken": api.OK, "Trips": api.ErrLate} {
			want := api.ErrRange
			if isIn {
				want = inside
			}
			if a := calls()[what](h); a.err != want {
				t.Errorf("%s with %d: %v, want %d", what, n, a, want)
			}
		}
	}
}

// R3: a nil list and an empty one are the same.
func TestNilIsEmpty(t *testing.T) {
	for _, x := range []struct {
		what        string
		none, empty func(h *hand)
	}{
		{"authorities", func(h *hand) { h.l = nil }, func(h *hand) { h.l = []api.Authority{} }},
		{"passages", func(h *hand) { h.t.Passages = nil }, func(h *hand) { h.t.Passages = []api.Passage{} }},
		{"rules", func(h *hand) { h.l[0].Rules, h.a.Rules = nil, nil }, func(h *hand) { h.l[0].Rules, h.a.Rules = []api.Rule{}, []api.Rule{} }},
		{"roads", func(h *hand) { h.l[0].Rules[0].Roads = nil }, func(h *hand) { h.l[0].Rules[0].Roads = []string{} }},
		{"whens", func(h *hand) { h.l[0].Rules[0].Whens = nil }, func(h *hand) { h.l[0].Rules[0].Whens = []api.When{} }},
		{"counts", func(h *hand) { h.l[0].Rules[0].Counts = nil }, func(h *hand) { h.l[0].Rules[0].Counts = []api.Count{} }},
		{"things", func(h *hand) { h.crossing.Things = nil }, func(h *hand) { h.crossing.Things = []api.Count{} }},
		{"crossings", func(h *hand) { h.all = nil }, func(h *hand) { h.all = []api.Crossing{} }},
	} {
		none, empty := fair().clone(), fair().clone()
		x.none(&none)
		x.empty(&empty)
		for name, call := range calls() {
			if p, q := call(none), call(empty); !p.same(q) {
				t.Errorf("%s of %s: %v with nil, %v with an empty list", name, x.what, p, q)
			}
		}
	}
}

// R5: a result shares no memory with an argument, or with another result.
func TestResultsAreNewMemory(t *testing.T) {
	for _, h := range []hand{
		fair(),
		{a: county(), s: exampleText, l: []api.Authority{county()}, t: ride(60000), to: 14400, all: []api.Crossing{{}}},
	} {
		for what, call := range calls() {
			before := h.clone()
			a, b := call(h), call(h)
			want := shown(b)
			spoil(reflect.ValueOf(&a.value).Elem().Elem())
			if shown(b) != want || shown(h) != shown(before) {
				t.Errorf("a result of %s shares memory", what)
			}
		}
	}
}

// R5: no two lists of what Parse returns share memory, also behind their ends.
func TestParsedListsAreApart(t *testing.T) {
	const s = "authority a 0 0\nrule r x y\nwhen axle 1\ncount x 1 2\nrule s\nrule t z\nwhen axle 2\ncount y 1 2\n"
	a := must[api.Authority](t, "Parse")(permit.Parse(s))
	for i := range a.Rules {
		r := &a.Rules[i]
		r.Roads, r.Whens, r.Counts = append(r.Roads, "w"), append(r.Whens, api.When{Size: 5}), append(r.Counts, api.Count{Thing: "w"})
	}
	const want = "authority a 0 0\nrule r x y w\nwhen axle 1\nwhen turn 0\ncount x 1 2\ncount w 0 0\nrule s w\nwhen turn 0\ncount w 0 0\n" +
		"rule t z w\nwhen axle 2\nwhen turn 0\ncount y 1 2\ncount w 0 0\n"
	got, e := permit.Text(a)
	check(t, "Text", got, e, want, api.OK)
}
