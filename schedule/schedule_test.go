package schedule_test

import (
	"math"
	"slices"
	"testing"

	"gooseneck/api"
	"gooseneck/schedule"
)

// P9.1
func TestCheck(t *testing.T) {
	for _, x := range []struct {
		what   string
		change func(j *api.Job)
		want   api.Errno
	}{
		{"the example", func(j *api.Job) {}, api.OK},
		{"no tasks", func(j *api.Job) { j.Tasks, j.Afters = nil, nil }, api.ErrArg},
		{"one task", func(j *api.Job) { *j = jobOf(1) }, api.OK},
		{"24 tasks", func(j *api.Job) { j.Tasks = tasks(24, free(1)) }, api.OK},
		{"25 tasks", func(j *api.Job) { j.Tasks = tasks(25, free(1)) }, api.ErrMany},
		{"96 links", func(j *api.Job) { j.Afters = slices.Repeat(j.Afters, 96) }, api.OK},
		{"97 links", func(j *api.Job) { j.Afters = slices.Repeat(j.Afters, 97) }, api.ErrMany},
		{"no links", func(j *api.Job) { j.Afters = nil }, api.OK},
		{"6 teams", func(j *api.Job) { j.Teams = make([]int64, 6) }, api.OK},
		{"7 teams", func(j *api.Job) { j.Teams = make([]int64, 7) }, api.ErrMany},
		{"no windows", func(j *api.Job) { j.Tasks[0].Windows = nil }, api.OK},
		{"32 windows", func(j *api.Job) { j.Tasks[2].Windows = manyWindows(32) }, api.OK},
		{"33 windows", func(j *api.Job) { j.Tasks[2].Windows = manyWindows(33) }, api.ErrMany},
		{"33 windows that are none", func(j *api.Job) { j.Tasks[2].Windows = make([]api.Window, 33) }, api.ErrMany},
		{"33 windows of the last of 24 tasks", func(j *api.Job) { j.Tasks = append(tasks(23, free(-1)), timed(1, 0, manyWindows(33))) }, api.ErrMany},
		{"no minutes", func(j *api.Job) { j.Tasks[1].Minutes = 0 }, api.OK},
		{"minutes below 0", func(j *api.Job) { j.Tasks[1].Minutes = -1 }, api.ErrArg},
		{"10,080 minutes", func(j *api.Job) { j.Tasks[1].Minutes = 10080 }, api.OK},
		{"10,081 minutes", func(j *api.Job) { j.Tasks[1].Minutes = 10081 }, api.ErrArg},
		{"windows that are none", func(j *api.Job) { j.Tasks[1].Windows = window(5, 5) }, api.ErrArg},
		{"a team below -1", func(j *api.Job) { j.Tasks[0].Team = -2 }, api.ErrArg},
		{"the last team", func(j *api.Job) { j.Tasks[0].Team = 0 }, api.OK},
		{"a team that there is not", func(j *api.Job) { j.Tasks[0].Team = 1 }, api.ErrArg},
		{"no team of none", func(j *api.Job) { j.Teams = nil }, api.ErrArg},
		{"no teams", func(j *api.Job) { j.Tasks[0].Team, j.Tasks[1].Team, j.Teams = -1, -1, nil }, api.OK},
		{"a link from -1", func(j *api.Job) { j.Afters[0].First = -1 }, api.ErrArg},
		{"a link from the last task", func(j *api.Job) { j.Afters[0] = link(2, 0, 0) }, api.OK},
		{"a link from task 3", func(j *api.Job) { j.Afters[0].First = 3 }, api.ErrArg},
		{"a link to -1", func(j *api.Job) { j.Afters[0].Second = -1 }, api.ErrArg},
		{"a link to task 3", func(j *api.Job) { j.Afters[0].Second = 3 }, api.ErrArg},
		{"a link from a task to itself", func(j *api.Job) { j.Afters[0].Second = 0 }, api.ErrArg},
		{"the greatest lag", func(j *api.Job) { j.Afters[0].Lag = 1 << 20 }, api.OK},
		{"too great a lag", func(j *api.Job) { j.Afters[0].Lag = 1<<20 + 1 }, api.ErrArg},
		{"the least lag", func(j *api.Job) { j.Afters[0].Lag = -1 << 20 }, api.OK},
		{"too little a lag", func(j *api.Job) { j.Afters[0].Lag = -1<<20 - 1 }, api.ErrArg},
		{"the least number", func(j *api.Job) { j.Afters[0].Lag = math.MinInt64 }, api.ErrArg},
		{"a team that needs no time", func(j *api.Job) { j.Teams[0] = 0 }, api.OK},
		{"a team that needs less", func(j *api.Job) { j.Teams[0] = -1 }, api.ErrArg},
		{"a team that needs 2^20", func(j *api.Job) { j.Teams[0] = 1 << 20 }, api.OK},
		{"a team that needs more", func(j *api.Job) { j.Teams[0] = 1<<20 + 1 }, api.ErrArg},
	} {
		j := example()
		x.change(&j)
		checkErr(t, x.what, schedule.Check(j), x.want)
	}
}

// P9.1: too many of anything comes before all that is not valid.
func TestCheckManyFirst(t *testing.T) {
	bad := api.Job{Tasks: tasks(2, free(-1)), Afters: []api.After{link(0, 0, 0)}, Teams: []int64{-1}}
	checkErr(t, "nothing is right", schedule.Check(bad), api.ErrArg)
	for what, change := range map[string]func(j *api.Job){
		"tasks":   func(j *api.Job) { j.Tasks = tasks(25, free(-1)) },
		"links":   func(j *api.Job) { j.Afters = slices.Repeat(j.Afters, 97) },
		"teams":   func(j *api.Job) { j.Teams = slices.Repeat(j.Teams, 7) },
		"windows": func(j *api.Job) { j.Tasks[1].Windows = manyWindows(33) },
	} {
		j := clone(bad)
		change(&j)
		checkErr(t, what, schedule.Check(j), api.ErrMany)
	}
}

// windowLists are lists of windows, and whether they are windows.
var windowLists = []struct {
	what string
	w    []api.Window
	want api.Errno
}{
	{"none", nil, api.OK},
	{"one", window(0, 1), api.OK},
	{"all times", window(0, 1<<40), api.OK},
	{"beyond all times", window(0, 1<<40+1), api.ErrArg},
	{"the last minute", window(1<<40-1, 1<<40), api.OK},
	{"after the last minute", window(1<<40, 1<<40+1), api.ErrArg},
	{"the end of all times", window(1<<40, 1<<40), api.ErrArg},
	{"from below 0", window(-1, 5), api.ErrArg},
	{"an empty one", window(5, 5), api.ErrArg},
	{"one that ends before it begins", window(6, 5), api.ErrArg},
	{"the least and the greatest number", window(math.MinInt64, math.MaxInt64), api.ErrArg},
	{"the greatest and the least number", window(math.MaxInt64, math.MinInt64), api.ErrArg},
	{"two without a gap", append(window(0, 5), window(5, 6)...), api.OK},
	{"two that overlap", append(window(0, 5), window(4, 6)...), api.ErrArg},
	{"two in the wrong order", append(window(7, 9), window(0, 5)...), api.ErrArg},
	{"one twice", append(window(0, 5), window(0, 5)...), api.ErrArg},
	{"the last of 32 is wrong", append(manyWindows(31), window(609, 620)...), api.ErrArg},
	{"32", manyWindows(32), api.OK},
	{"33", manyWindows(33), api.ErrMany},
	{"33 that are none", make([]api.Window, 33), api.ErrMany},
}

// Windows are the same for tasks, for Fit and for legs.
func TestWindows(t *testing.T) {
	for _, x := range windowLists {
		checkErr(t, "Check: "+x.what, schedule.Check(api.Job{Tasks: []api.Task{free(1), timed(1, -1, x.w)}}), x.want)
		_, e := schedule.CheckCrew([]api.Leg{{Minutes: 1, Windows: window(0, 1)}, {Minutes: 1, Windows: x.w}}, 1, 1, 0, nil)
		if want := x.want; e != want && (want != api.OK || e != api.ErrEqual) {
			t.Errorf("CheckCrew: %s: error %d, want %d", x.what, e, want)
		}
		_, e = schedule.Fit(x.w, 10080, 1<<40)
		if want := x.want; e != want && (want != api.OK || e != api.ErrPlan) {
			t.Errorf("Fit: %s: error %d, want %d", x.what, e, want)
		}
	}
}

// P9.2
func TestFit(t *testing.T) {
	close := append(window(10, 20), window(20, 30)...)
	for _, x := range []struct {
		what    string
		w       []api.Window
		minutes int64
		from    int64
		want    int64
		e       api.Errno
	}{
		{"the example", twoWindows(), 60, 30, 30, api.OK},
		{"just in time", twoWindows(), 60, 40, 40, api.OK},
		{"a minute too late", twoWindows(), 60, 41, 1000, api.OK},
		{"in the gap", twoWindows(), 60, 500, 1000, api.OK},
		{"the last time", twoWindows(), 60, 1940, 1940, api.OK},
		{"after the last time", twoWindows(), 60, 1941, 0, api.ErrPlan},
		{"from 0", twoWindows(), 60, 0, 0, api.OK},
		{"all of a window", twoWindows(), 100, 0, 0, api.OK},
		{"longer than a window", twoWindows(), 101, 0, 1000, api.OK},
		{"longer than all windows", twoWindows(), 1001, 0, 0, api.ErrPlan},
		{"no windows", nil, 0, 0, 0, api.ErrPlan},
		{"no minutes", twoWindows(), 0, 50, 50, api.OK},
		{"no minutes at the end of a window", twoWindows(), 0, 100, 100, api.OK},
		{"no minutes behind a window", twoWindows(), 0, 101, 1000, api.OK},
		{"no minutes at the end", twoWindows(), 0, 2000, 2000, api.OK},
		{"no minutes behind the end", twoWindows(), 0, 2001, 0, api.ErrPlan},
		{"before two windows without a gap", close, 10, 0, 10, api.OK},
		{"not over two windows", close, 10, 11, 20, api.OK},
		{"not in two windows", close, 11, 0, 0, api.ErrPlan},
		{"no minutes where two windows meet", close, 0, 20, 20, api.OK},
		{"10,080 minutes", window(5, 10085), 10080, 0, 5, api.OK},
		{"10,081 minutes", window(5, 1<<40), 10081, 0, 0, api.ErrRange},
		{"minutes below 0", window(5, 1<<40), -1, 0, 0, api.ErrRange},
		{"from below 0", window(5, 1<<40), 1, -1, 0, api.ErrRange},
		{"no minutes at the end of all times", window(5, 1<<40), 0, 1 << 40, 1 << 40, api.OK},
		{"a minute at the end of all times", window(5, 1<<40), 1, 1 << 40, 0, api.ErrPlan},
		{"behind all times", window(5, 1<<40), 0, 1<<40 + 1, 0, api.ErrRange},
		{"the greatest numbers", window(5, 1<<40), math.MaxInt64, math.MaxInt64, 0, api.ErrRange},
		{"the least numbers", window(5, 1<<40), math.MinInt64, math.MinInt64, 0, api.ErrRange},
		{"not in windows that are none", window(5, 5), -1, -1, 0, api.ErrArg},
		{"in too many windows", make([]api.Window, 33), -1, -1, 0, api.ErrMany},
		{"the last of 32 windows", manyWindows(32), 1, 620, 620, api.OK},
	} {
		got, e := schedule.Fit(x.w, x.minutes, x.from)
		check(t, x.what, got, e, x.want, x.e)
	}
}

// P9.2: any windows, minute by minute.
func TestFitAny(t *testing.T) {
	r := chance(1)
	none := 0
	for range 3000 {
		w, minutes, at := anyWindows(r, small), from(r, 0, 6), from(r, 0, 14)
		want, wantErr := fitOf(w, minutes, at, 40), api.OK
		if want == -1 {
			want, wantErr = 0, api.ErrPlan
			none++
		}
		got, e := schedule.Fit(w, minutes, at)
		check(t, "any", got, e, want, wantErr)
	}
	if none < 300 || none > 2700 {
		t.Errorf("%d do not fit", none)
	}
}
