package schedule_test

import (
	"math"
	"math/rand/v2"
	"reflect"
	"slices"
	"testing"

	"gooseneck/api"
)

// extremes are numbers at the limits of the chapter, one beyond them, and at the ends of the type.
var extremes = []int64{
	math.MinInt64, math.MinInt64 + 1, -1<<40 - 1, -1<<20 - 1, -1 << 20, -2, -1, 0, 1, 2, 5, 6, 7, 11, 12, 13, 23, 24, 25, 31, 32,
	33, 10079, 10080, 10081, 1 << 20, 1<<20 + 1, 1 << 32, 1<<40 - 10080, 1<<40 - 1, 1 << 40, 1<<40 + 1, math.MaxInt64 - 10080,
	math.MaxInt64 - 1, math.MaxInt64,
}

const greatest = 1 << 40 // time

// soon is a time by which all windows of small jobs end.
const soon = 16

// chance returns numbers that look like chance, and are the same in each run.
func chance(seed uint64) *rand.Rand { return rand.New(rand.NewPCG(seed, 9)) }

// from returns a number from low to high.
func from(r *rand.Rand, low, high int64) int64 { return low + r.Int64N(high-low+1) }

// pick returns one of some things.
func pick[T any](r *rand.Rand, l ...T) T { return l[r.IntN(len(l))] }

// window returns a list of one window.
func window(begin, end int64) []api.Window { return []api.Window{{From: begin, To: end}} }

// twoWindows are the windows of the chapter's examples.
func twoWindows() []api.Window { return append(window(0, 100), window(1000, 2000)...) }

// manyWindows returns n windows of 10 minutes, with as long gaps.
func manyWindows(n int64) []api.Window {
	var w []api.Window
	for i := range n {
		w = append(w, window(20*i, 20*i+10)...)
	}
	return w
}

// example is the job of the chapter's examples.
func example() api.Job {
	return api.Job{
		Tasks: []api.Task{
			{Minutes: 60, Windows: twoWindows()}, {Minutes: 60, Windows: twoWindows()}, {Minutes: 60, Windows: twoWindows(), Team: -1},
		},
		Afters: []api.After{link(0, 2, 50)},
		Teams:  []int64{30},
	}
}

// withLinks returns a job with some links more.
func withLinks(j api.Job, l ...api.After) api.Job {
	j.Afters = slices.Concat(j.Afters, l)
	return j
}

// link returns a link by its numbers, and reason a reason.
func link(first, second int, lag int64) api.After {
	return api.After{First: first, Second: second, Lag: lag}
}

func reason(task, by int, from, start int64) api.Reason {
	return api.Reason{Task: task, By: by, From: from, Start: start}
}

// free returns a task of no team that can be done at any time.
func free(minutes int64) api.Task { return timed(minutes, -1, window(0, greatest)) }

func timed(minutes int64, team int, w []api.Window) api.Task {
	return api.Task{Minutes: minutes, Windows: w, Team: team}
}

// tasks returns n tasks that are all the same.
func tasks(n int, t api.Task) []api.Task { return slices.Repeat([]api.Task{t}, n) }

// jobOf returns a job of n tasks of no minutes that can be done at any time, with some links.
func jobOf(n int, links ...api.After) api.Job {
	return api.Job{Tasks: tasks(n, free(0)), Afters: links}
}

// fullTeam returns a job of n tasks of one team, of 10, 20 and so on minutes, the last one first.
func fullTeam(n int) api.Job {
	j := api.Job{Teams: []int64{0}}
	for i := range n {
		j.Tasks = append(j.Tasks, timed(int64(n-i)*10, 0, window(0, 10000)))
	}
	return j
}

// upTo returns the numbers below n.
func upTo(n int) []int {
	var l []int
	for i := range n {
		l = append(l, i)
	}
	return l
}

func clone(j api.Job) api.Job {
	j.Tasks, j.Afters, j.Teams = slices.Clone(j.Tasks), slices.Clone(j.Afters), slices.Clone(j.Teams)
	for i := range j.Tasks {
		j.Tasks[i].Windows = slices.Clone(j.Tasks[i].Windows)
	}
	return j
}

func cloneLists(l [][]int) [][]int {
	l = slices.Clone(l)
	for i := range l {
		l[i] = slices.Clone(l[i])
	}
	return l
}

func cloneLegs(l []api.Leg) []api.Leg {
	l = slices.Clone(l)
	for i := range l {
		l[i].Windows = slices.Clone(l[i].Windows)
	}
	return l
}

// extent is how large jobs are that are made by chance: up to so many things, minutes, and times.
type extent struct {
	tasks, afters, teams, windows int
	minutes, time                 int64
}

var (
	// small are jobs of which all plans can be looked at.
	small = extent{4, 6, 2, 3, 3, 8}

	// large are jobs at the limits of the chapter.
	large = extent{api.MaxTasks, api.MaxAfters, api.MaxTeams, api.MaxWindows, 300, 30000}
)

// anyJob returns a valid job. Most of its links are such that there are plans.
func anyJob(r *rand.Rand, x extent) api.Job {
	var j api.Job
	for range r.IntN(x.teams + 1) {
		j.Teams = append(j.Teams, from(r, 0, x.minutes/2))
	}
	for range 1 + r.IntN(x.tasks) {
		j.Tasks = append(j.Tasks, timed(from(r, 0, x.minutes), r.IntN(len(j.Teams)+1)-1, anyWindows(r, x)))
	}
	for range r.IntN(x.afters + 1) {
		first, second := r.IntN(len(j.Tasks)), r.IntN(len(j.Tasks))
		lag := from(r, -x.minutes, x.minutes)
		if first > second && r.IntN(x.tasks) > 0 {
			lag = -from(r, x.minutes, x.time)
		}
		if first != second {
			j.Afters = append(j.Afters, link(first, second, lag))
		}
	}
	return j
}

// anyWindows returns windows, of which some have no gaps between them.
func anyWindows(r *rand.Rand, x extent) []api.Window {
	n := 2 * (1 + r.IntN(x.windows))
	var ends []int64
	for range n {
		ends = append(ends, from(r, 0, x.time))
	}
	slices.Sort(ends)
	var w []api.Window
	for i := 0; i < n; i += 2 {
		if ends[i] < ends[i+1] {
			w = append(w, window(ends[i], ends[i+1])...)
		}
	}
	if len(w) > 0 && r.IntN(3) > 0 {
		w[len(w)-1].To += x.time
	}
	if len(w) > 1 && r.IntN(3) == 0 {
		w[0].To = w[1].From
	}
	return w
}

// anyOrder returns an order of a job; often one with which there may be a plan.
func anyOrder(r *rand.Rand, j api.Job) [][]int {
	order := make([][]int, len(j.Teams))
	for _, i := range pick(r, r.Perm(len(j.Tasks)), upTo(len(j.Tasks))) {
		if team := j.Tasks[i].Team; team >= 0 {
			order[team] = append(order[team], i)
		}
	}
	return order
}

// anyCrew returns legs, with most and rest.
func anyCrew(r *rand.Rand, legs int, x extent) ([]api.Leg, int64, int64) {
	most := from(r, 1, 3*x.minutes)
	var l []api.Leg
	for range r.IntN(legs + 1) {
		l = append(l, api.Leg{Minutes: from(r, 1, min(most, x.minutes)), Windows: anyWindows(r, x)})
	}
	return l, most, from(r, 1, 2*x.minutes)
}

// must returns the result of a call that has no error.
func must[T any](t *testing.T, what string) func(T, api.Errno) T {
	return func(got T, e api.Errno) T {
		t.Helper()
		if e != api.OK {
			t.Fatalf("%s: error %d", what, e)
		}
		return got
	}
}

// check reports a result with its error, if they are not as they should be; nil is the same as empty.
func check[T any](t *testing.T, what string, got T, e api.Errno, want T, wantErr api.Errno) {
	t.Helper()
	if shown(got) != shown(want) || e != wantErr {
		t.Errorf("%s: %v, %d, want %v, %d", what, got, e, want, wantErr)
	}
}

// checkErr reports an error that is not the one it should be.
func checkErr(t *testing.T, what string, got, want api.Errno) {
	t.Helper()
	if got != want {
		t.Errorf("%s: error %d, want %d", what, got, want)
	}
}

// spoil clears all lists of a value, with what is behind their ends.
func spoil(v reflect.Value) {
	switch v.Kind() {
	case reflect.Slice:
		v = v.Slice(0, v.Cap())
		for i := range v.Len() {
			spoil(v.Index(i))
			v.Index(i).SetZero()
		}
	case reflect.Struct:
		for i := range v.NumField() {
			spoil(v.Field(i))
		}
	}
}
