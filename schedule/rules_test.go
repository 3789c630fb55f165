package schedule_test

import (
	"fmt"
	"math/rand/v2"
	"reflect"
	"slices"
	"testing"

	"gooseneck/api"
	"gooseneck/schedule"
)

// hand is arguments for any function of the package.
type hand struct {
	j                 api.Job
	order             [][]int
	starts            []int64
	task              int
	reasons           []api.Reason
	circle            []int
	w                 []api.Window
	minutes, at       int64
	legs              []api.Leg
	most, rest, begin int64
	times             []int64
}

func (h hand) clone() hand {
	h.j, h.order, h.legs = clone(h.j), cloneLists(h.order), cloneLegs(h.legs)
	h.starts, h.times, h.circle = slices.Clone(h.starts), slices.Clone(h.times), slices.Clone(h.circle)
	h.reasons, h.w = slices.Clone(h.reasons), slices.Clone(h.w)
	return h
}

// shown is a value as a text; a nil list and an empty one have the same.
func shown(x any) string { return fmt.Sprintf("%v", x) }

// answer is what a call returns.
type answer struct {
	value any
	err   api.Errno
}

// same reports whether two answers are equal.
func (a answer) same(b answer) bool { return shown(a) == shown(b) }

// zero reports whether the result beside the error is a zero value.
func (a answer) zero() bool { return shown(a.value) == shown(reflect.Zero(reflect.TypeOf(a.value))) }

// of returns what a call returns as an answer.
func of[T any](value T, e api.Errno) answer { return answer{value, e} }

// best is what Best returns but its error.
type best struct {
	Order  [][]int
	Starts []int64
	End    int64
}

func ofBest(order [][]int, starts []int64, end int64, e api.Errno) answer {
	return answer{best{order, starts, end}, e}
}

// onOrder are the functions of the package that take an order.
func onOrder() map[string]func(h hand) answer {
	return map[string]func(h hand) answer{
		"CheckOrder":  func(h hand) answer { return of(0, schedule.CheckOrder(h.j, h.order)) },
		"Links":       func(h hand) answer { return of(schedule.Links(h.j, h.order)) },
		"CheckPlan":   func(h hand) answer { return of(schedule.CheckPlan(h.j, h.order, h.starts)) },
		"Earliest":    func(h hand) answer { return of(schedule.Earliest(h.j, h.order)) },
		"Why":         func(h hand) answer { return of(schedule.Why(h.j, h.order, h.task)) },
		"CheckWhy":    func(h hand) answer { return of(0, schedule.CheckWhy(h.j, h.order, h.reasons)) },
		"Circle":      func(h hand) answer { return of(schedule.Circle(h.j, h.order)) },
		"CheckCircle": func(h hand) answer { return of(0, schedule.CheckCircle(h.j, h.order, h.circle)) },
	}
}

// onJob are the functions of the package that take a job.
func onJob() map[string]func(h hand) answer {
	all := onOrder()
	all["Check"] = func(h hand) answer { return of(0, schedule.Check(h.j)) }
	all["OrderOf"] = func(h hand) answer { return of(schedule.OrderOf(h.j, h.starts)) }
	all["Best"] = func(h hand) answer { return ofBest(schedule.Best(h.j)) }
	return all
}

// calls are all functions of the package.
func calls() map[string]func(h hand) answer {
	all := onJob()
	all["Fit"] = func(h hand) answer { return of(schedule.Fit(h.w, h.minutes, h.at)) }
	all["CheckCrew"] = func(h hand) answer {
		return of(schedule.CheckCrew(h.legs, h.most, h.rest, h.begin, h.times))
	}
	all["Crew"] = func(h hand) answer { return of(schedule.Crew(h.legs, h.most, h.rest, h.begin)) }
	return all
}

// hasNumber reports whether a call returns a number together with its error.
func hasNumber(what string, e api.Errno) bool {
	return what == "CheckPlan" && (e == api.ErrRule || e == api.ErrSum) || what == "CheckCrew" && (e == api.ErrRule || e == api.ErrHave)
}

// deal returns arguments of which many are at a limit, or beyond it.
func deal(r *rand.Rand) hand {
	j := anyJob(r, pick(r, small, middle))
	h := hand{j: j, order: anyOrder(r, j), task: r.IntN(len(j.Tasks)), w: anyWindows(r, small), minutes: from(r, 0, 4), at: from(r, 0, 15)}
	h.starts, _ = schedule.Earliest(j, h.order)
	if len(h.starts) == 0 || r.IntN(8) == 0 {
		h.starts = make([]int64, len(j.Tasks)-r.IntN(2))
	}
	h.reasons, _ = schedule.Why(j, h.order, h.task)
	h.circle, _ = schedule.Circle(j, h.order)
	h.legs, h.most, h.rest = anyCrew(r, 5, small)
	h.begin = from(r, 0, 4)
	h.times, _ = schedule.Crew(h.legs, h.most, h.rest, h.begin)
	if len(h.times) == 0 || r.IntN(4) == 0 {
		h.times = make([]int64, len(h.legs))
	}
	if r.IntN(3) == 0 {
		numbers, indexes := partsOf(h, &h)
		for range 1 + r.IntN(2) {
			*pick(r, numbers...) = pick(r, extremes...)
		}
		*pick(r, indexes...) = int(pick(r, extremes...))
	}
	return h
}

// partsOf returns the numbers and the indexes among arguments.
func partsOf(h hand, own *hand) ([]*int64, []*int) {
	numbers := []*int64{&own.minutes, &own.at, &own.most, &own.rest, &own.begin}
	indexes := []*int{&own.task}
	lists := [][]int64{h.j.Teams, h.starts, h.times}
	windows := []*[]api.Window{&own.w}
	for i := range h.j.Tasks {
		numbers, indexes = append(numbers, &h.j.Tasks[i].Minutes), append(indexes, &h.j.Tasks[i].Team)
		windows = append(windows, &h.j.Tasks[i].Windows)
	}
	for i := range h.legs {
		numbers, windows = append(numbers, &h.legs[i].Minutes), append(windows, &h.legs[i].Windows)
	}
	for i := range h.j.Afters {
		numbers, indexes = append(numbers, &h.j.Afters[i].Lag), append(indexes, &h.j.Afters[i].First, &h.j.Afters[i].Second)
	}
	for i := range h.reasons {
		one := &h.reasons[i]
		numbers, indexes = append(numbers, &one.From, &one.Start), append(indexes, &one.Task, &one.By)
	}
	for _, l := range lists {
		for i := range l {
			numbers = append(numbers, &l[i])
		}
	}
	for _, w := range windows {
		for i := range *w {
			numbers = append(numbers, &(*w)[i].From, &(*w)[i].To)
		}
	}
	for _, l := range append(slices.Clone(h.order), h.circle) {
		for i := range l {
			indexes = append(indexes, &l[i])
		}
	}
	return numbers, indexes
}

// P1, R2, R5, R6, R10: each function ends and does not panic for all arguments; it changes none of them; it returns zero
// values with an error, but the numbers that CheckPlan and CheckCrew return, and the same if it is called again.
func TestAnyArguments(t *testing.T) {
	r := chance(17)
	fine := map[string]int{}
	for range 5000 {
		h := deal(r)
		for what, call := range calls() {
			before := h.clone()
			a := call(h)
			if shown(h) != shown(before) {
				t.Fatalf("%s has changed an argument", what)
			}
			if a.err != api.OK && !a.zero() && !hasNumber(what, a.err) {
				t.Errorf("%s of %v: %v", what, before, a)
			}
			if a.err == api.OK {
				fine[what]++
			}
			if again := call(before); !again.same(a) {
				t.Errorf("%s of %v: %v, and then %v", what, before, a, again)
			}
		}
	}
	for what := range calls() {
		if fine[what] < 100 {
			t.Errorf("%s has ended without an error only %d times", what, fine[what])
		}
	}
}

// Functions with a job return the error of Check before all others, those with an order then that of CheckOrder.
func TestErrorsInOrder(t *testing.T) {
	jobs := map[api.Errno]api.Job{
		api.ErrMany: {Tasks: tasks(25, free(-1))},
		api.ErrArg:  {Tasks: tasks(2, free(-1)), Teams: []int64{0}},
	}
	orders := map[api.Errno][][]int{api.ErrEqual: {{0, 1}, {}}, api.ErrArg: {{0, 1, 2}}}
	wrong := hand{starts: []int64{-1}, task: -1, reasons: make([]api.Reason, 20001), circle: upTo(25)}
	for want, j := range jobs {
		for _, order := range append([][][]int{{{0, 1}}}, orders[api.ErrEqual], orders[api.ErrArg]) {
			h := wrong
			h.j, h.order = j, order
			for what, call := range onJob() {
				if a := call(h); a.err != want || !a.zero() {
					t.Errorf("%s of a wrong job: %v, want %d", what, a, want)
				}
			}
		}
	}
	for want, order := range orders {
		h := wrong
		h.j, h.order = example(), order
		for what, call := range onOrder() {
			if a := call(h); a.err != want || !a.zero() {
				t.Errorf("%s of a wrong order: %v, want %d", what, a, want)
			}
		}
	}
}

// R3: a nil list and an empty one are the same.
func TestNilIsEmpty(t *testing.T) {
	for _, x := range []struct {
		what        string
		none, empty func(h *hand)
	}{
		{"tasks", func(h *hand) { h.j.Tasks = nil }, func(h *hand) { h.j.Tasks = []api.Task{} }},
		{"links", func(h *hand) { h.j.Afters = nil }, func(h *hand) { h.j.Afters = []api.After{} }},
		{"teams", func(h *hand) { h.j = jobOf(2); h.order = nil }, func(h *hand) { h.j = jobOf(2); h.order = [][]int{} }},
		{"tasks of a team", func(h *hand) { h.j.Teams, h.order = []int64{0, 0}, [][]int{{0, 1}, nil} }, func(h *hand) { h.j.Teams, h.order = []int64{0, 0}, [][]int{{0, 1}, {}} }},
		{"windows", func(h *hand) { h.w, h.j.Tasks[0].Windows, h.legs[0].Windows = nil, nil, nil }, func(h *hand) {
			h.w, h.j.Tasks[0].Windows, h.legs[0].Windows = []api.Window{}, []api.Window{}, []api.Window{}
		}},
		{"starts", func(h *hand) { h.starts, h.times = nil, nil }, func(h *hand) { h.starts, h.times = []int64{}, []int64{} }},
		{"reasons", func(h *hand) { h.reasons = nil }, func(h *hand) { h.reasons = []api.Reason{} }},
		{"a circle", func(h *hand) { h.circle = nil }, func(h *hand) { h.circle = []int{} }},
		{"legs", func(h *hand) { h.legs, h.times = nil, nil }, func(h *hand) { h.legs, h.times = []api.Leg{}, []int64{} }},
	} {
		none, empty := fair(), fair()
		x.none(&none)
		x.empty(&empty)
		for name, call := range calls() {
			if p, q := call(none), call(empty); !p.same(q) {
				t.Errorf("%s of %s: %v with nil, %v with an empty list", name, x.what, p, q)
			}
		}
	}
}

// fair returns arguments that are right for all functions but Circle and CheckCircle.
func fair() hand {
	return hand{
		j: example(), order: [][]int{{0, 1}}, starts: []int64{0, 1000, 1000}, task: 1, circle: []int{0, 2},
		reasons: []api.Reason{reason(0, -1, 0, 0), reason(1, 0, 90, 1000)}, w: twoWindows(), minutes: 60, at: 41,
		legs: threeLegs(), most: 200, rest: 300, times: []int64{0, 100, 500},
	}
}

// R5: a result shares no memory with an argument, or with another result; nor do two lists of a result.
func TestResultsAreNewMemory(t *testing.T) {
	round, teams, plain := fair(), fair(), fair()
	plain.j, plain.order = jobOf(3, link(0, 1, 5)), nil
	round.j = withLinks(example(), link(2, 0, -49))
	teams.j = twoTeams()
	teams.order = [][]int{{4, 0, 2}, {}, {3}}
	teams.starts = []int64{5, 6, 7, 8, 9}
	for _, h := range []hand{fair(), round, teams, plain} {
		for what, call := range calls() {
			before := h.clone()
			a, b := call(h), call(h)
			want := shown(b)
			spoil(reflect.ValueOf(a.value))
			if shown(b) != want || shown(h) != shown(before) {
				t.Errorf("a result of %s shares memory", what)
			}
		}
	}
	for _, order := range [][][]int{
		must[[][]int](t, "OrderOf")(schedule.OrderOf(teams.j, teams.starts)),
		ofBest(schedule.Best(teams.j)).value.(best).Order,
	} {
		lasts := []int{order[0][2], order[2][0]}
		for team := range order {
			order[team] = append(order[team], -7)
		}
		if order[0][2] != lasts[0] || order[2][0] != lasts[1] {
			t.Errorf("two lists share memory: %v", order)
		}
	}
}
