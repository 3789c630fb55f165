package schedule_test

import (
	"slices"
	"testing"

	"gooseneck/api"
	"gooseneck/schedule"
)

// P9.3
func TestCheckPlan(t *testing.T) {
	order := [][]int{{0, 1}}
	for _, x := range []struct {
		what   string
		starts []int64
		want   int
		e      api.Errno
	}{
		{"the earliest plan", []int64{0, 1000, 1000}, 0, api.OK},
		{"a later one", []int64{1000, 1940, 1940}, 0, api.OK},
		{"just in time", []int64{1000, 1090, 1050}, 0, api.OK},
		{"no starts", nil, 0, api.ErrEqual},
		{"a start too few", []int64{-1, 1000}, 0, api.ErrEqual},
		{"a start too many", []int64{0, 1000, 1000, 0}, 0, api.ErrEqual},
		{"a start below 0", []int64{500, 1000, -1}, 0, api.ErrRange},
		{"too great a start", []int64{500, 1<<40 + 1, 0}, 0, api.ErrRange},
		{"the greatest start", []int64{0, 1000, 1 << 40}, 2, api.ErrRule},
		{"the first task does not fit", []int64{41, 500, 500}, 0, api.ErrRule},
		{"the task 1 does not fit", []int64{40, 999, 500}, 1, api.ErrRule},
		{"the last task does not fit, and a link is broken", []int64{0, 0, 1941}, 2, api.ErrRule},
		{"the first link is broken", []int64{0, 1000, 40}, 0, api.ErrSum},
		{"the first link is broken by a minute, as the second one", []int64{1000, 1089, 1049}, 0, api.ErrSum},
		{"the second link is broken", []int64{1000, 1089, 1050}, 1, api.ErrSum},
	} {
		got, e := schedule.CheckPlan(example(), order, x.starts)
		check(t, x.what, got, e, x.want, x.e)
	}
	j := withLinks(example(), link(2, 1, -10), link(2, 1, -9))
	got, e := schedule.CheckPlan(j, [][]int{{1, 0}}, []int64{1090, 1000, 1200})
	check(t, "the last link", got, e, 1, api.ErrSum)
	got, e = schedule.CheckPlan(j, [][]int{{1, 0}}, []int64{1089, 1140, 1150})
	check(t, "links of the job before those of teams", got, e, 2, api.ErrSum)
	got, e = schedule.CheckPlan(j, [][]int{{1, 0}}, []int64{1089, 1140, 1149})
	check(t, "the link of a team", got, e, 3, api.ErrSum)
	got, e = schedule.CheckPlan(j, [][]int{{1}}, []int64{-1})
	check(t, "the order before the plan", got, e, 0, api.ErrArg)
}

// P9.3: any plan.
func TestCheckPlanAny(t *testing.T) {
	r := chance(3)
	count := map[api.Errno]int{}
	for range 20000 {
		j := anyJob(r, small)
		order := anyOrder(r, j)
		var starts []int64
		for range j.Tasks {
			starts = append(starts, from(r, 0, soon))
		}
		want, wantErr := 0, api.OK
		if i := misfitOf(j, starts); i >= 0 {
			want, wantErr = i, api.ErrRule
		} else if i := brokenOf(linksOf(j, order), starts); i >= 0 {
			want, wantErr = i, api.ErrSum
		}
		got, e := schedule.CheckPlan(j, order, starts)
		check(t, "any", got, e, want, wantErr)
		count[e]++
	}
	if count[api.OK] < 500 || count[api.ErrRule] < 500 || count[api.ErrSum] < 500 {
		t.Errorf("too few of an error: %v", count)
	}
}

// P9.4
func TestEarliest(t *testing.T) {
	late := example()
	late.Tasks[1].Windows = window(0, 100)
	for _, x := range []struct {
		what  string
		j     api.Job
		order [][]int
		want  []int64
		e     api.Errno
	}{
		{"the example", example(), [][]int{{0, 1}}, []int64{0, 1000, 1000}, api.OK},
		{"the example, backward", example(), [][]int{{1, 0}}, []int64{1000, 0, 1050}, api.OK},
		{"one task", jobOf(1), nil, []int64{0}, api.OK},
		{"a task without windows", api.Job{Tasks: tasks(2, timed(0, -1, nil))}, nil, nil, api.ErrPlan},
		{"a task longer than its windows", api.Job{Tasks: tasks(1, timed(6, -1, window(0, 5)))}, nil, nil, api.ErrPlan},
		{"too late for its window", late, [][]int{{0, 1}}, nil, api.ErrPlan},
		{"in time in another order", late, [][]int{{1, 0}}, []int64{1000, 0, 1050}, api.OK},
		{"a lag below 0", jobOf(2, link(0, 1, -5)), nil, []int64{0, 0}, api.OK},
		{"two links, of which one is greater", jobOf(2, link(0, 1, 5), link(0, 1, 7), link(0, 1, 6)), nil, []int64{0, 7}, api.OK},
		{"links in the wrong order", jobOf(4, link(2, 3, 1), link(1, 2, 1), link(0, 1, 1)), nil, []int64{0, 1, 2, 3}, api.OK},
		{"two ways", jobOf(4, link(0, 1, 1), link(0, 2, 5), link(1, 3, 8), link(2, 3, 1)), nil, []int64{0, 1, 5, 9}, api.OK},
		{"a circle with a sum of 0", jobOf(2, link(0, 1, 5), link(1, 0, -5)), nil, []int64{0, 5}, api.OK},
		{"a circle with a sum of 1", jobOf(2, link(0, 1, 5), link(1, 0, -4)), nil, nil, api.ErrPlan},
		{"a team and a link", withLinks(example(), link(1, 0, 0)), [][]int{{0, 1}}, nil, api.ErrPlan},
		{"no order", example(), nil, nil, api.ErrEqual},
	} {
		got, e := schedule.Earliest(x.j, x.order)
		check(t, x.what, got, e, x.want, x.e)
	}
}

// P9.4: tasks that pull each other from window to window; and the limits of time.
func TestEarliestWaits(t *testing.T) {
	j := jobOf(2, link(0, 1, 1), link(1, 0, -1))
	j.Tasks[0].Windows = slices.Concat(window(0, 1), window(5, 6), window(10, 30), window(40, 41))
	j.Tasks[1].Windows = slices.Concat(window(3, 4), window(8, 9), window(35, 36), window(41, 42))
	got, e := schedule.Earliest(j, nil)
	check(t, "pulled to the last windows", got, e, []int64{40, 41}, api.OK)
	j.Afters[1].Lag = 0
	got, e = schedule.Earliest(j, nil)
	check(t, "a circle that windows do not end", got, e, nil, api.ErrPlan)

	end := api.Job{Tasks: tasks(2, timed(10, -1, window(0, 1<<40))), Afters: []api.After{link(0, 1, 1<<20)}}
	end.Tasks[0].Windows = window(1<<40-1<<20-10, 1<<40)
	got, e = schedule.Earliest(end, nil)
	check(t, "the last time", got, e, []int64{1<<40 - 1<<20 - 10, 1<<40 - 10}, api.OK)
	end.Tasks[0].Windows[0].From++
	got, e = schedule.Earliest(end, nil)
	check(t, "after the last time", got, e, nil, api.ErrPlan)
	end.Tasks[1].Windows = window(1<<40-5, 1<<40)
	end.Afters = append(end.Afters, link(1, 0, 1))
	got, e = schedule.Earliest(end, nil)
	check(t, "a circle up to the last time", got, e, nil, api.ErrPlan)
}

// P9.4, P9.9: for any order, all right plans are looked at: no task begins earlier in any of them, and the starts are one of
// them.
func TestEarliestAny(t *testing.T) {
	r := chance(4)
	some, none := 0, 0
	for range 4000 {
		j := anyJob(r, small)
		order := anyOrder(r, j)
		right := rightOf(plansOf(j, soon), linksOf(j, order))
		want, wantErr := earliestOf(right)
		got, e := schedule.Earliest(j, order)
		check(t, shown(j), got, e, want, wantErr)
		if e != api.OK {
			none++
			continue
		}
		some++
		if !slices.ContainsFunc(right, func(p []int64) bool { return slices.Equal(p, got) }) {
			t.Errorf("%v is not right for %v of %v", got, order, j)
		}
	}
	if some < 1000 || none < 1000 {
		t.Errorf("%d with a plan, %d without", some, none)
	}
}

// P9.7
func TestBest(t *testing.T) {
	tie := api.Job{Tasks: tasks(4, timed(5, 0, window(0, 100))), Teams: []int64{1, 1}}
	tie.Tasks[1].Team, tie.Tasks[2].Team = 1, 1
	last := clone(tie)
	last.Tasks[3].Windows = window(0, 5)
	pulled := withLinks(tie, link(2, 1, 6))
	crossed := api.Job{Tasks: slices.Concat(tasks(2, timed(5, 0, window(0, 100))), tasks(2, timed(5, 1, window(0, 100)))), Teams: []int64{0, 0}}
	crossed.Afters = []api.After{link(1, 2, 0)}
	late := clone(tie)
	late.Tasks[0].Windows, late.Tasks[3].Windows = window(0, 9), window(0, 9)
	mixed := fullTeam(3)
	mixed.Tasks[1].Windows = window(30, 60)
	for _, x := range []struct {
		what string
		j    api.Job
		want ended
		e    api.Errno
	}{
		{"the example", example(), ended{[][]int{{0, 1}}, []int64{0, 1000, 1000}, 1060}, api.OK},
		{"no teams", jobOf(2, link(0, 1, 9)), ended{nil, []int64{0, 9}, 9}, api.OK},
		{"it ends at 0", jobOf(2), ended{nil, []int64{0, 0}, 0}, api.OK},
		{"the first of equal ones", tie, ended{[][]int{{0, 3}, {1, 2}}, []int64{0, 0, 6, 6}, 11}, api.OK},
		{"the first list backward", last, ended{[][]int{{3, 0}, {1, 2}}, []int64{6, 0, 6, 0}, 11}, api.OK},
		{"the last list backward", pulled, ended{[][]int{{0, 3}, {2, 1}}, []int64{0, 6, 0, 6}, 11}, api.OK},
		{"either list backward", crossed, ended{[][]int{{0, 1}, {3, 2}}, []int64{0, 5, 5, 0}, 10}, api.OK},
		{"no plan", late, ended{}, api.ErrPlan},
		{"one that waits for a window", mixed, ended{[][]int{{0, 1, 2}}, []int64{0, 30, 50}, 60}, api.OK},
		{"no windows", api.Job{Tasks: tasks(1, timed(0, -1, nil))}, ended{}, api.ErrPlan},
		{"a job that is not valid", api.Job{}, ended{}, api.ErrArg},
	} {
		order, starts, end, e := schedule.Best(x.j)
		check(t, x.what, ended{order, starts, end}, e, x.want, x.e)
	}
}

// P9.7: a job may have 5,040 orders.
func TestBestMany(t *testing.T) {
	j := fullTeam(7)
	order, starts, end, e := schedule.Best(j)
	check(t, "7 tasks", ended{order, starts, end}, e, ended{[][]int{upTo(7)}, []int64{0, 70, 130, 180, 220, 250, 270}, 280}, api.OK)
	for i := range j.Tasks {
		j.Tasks[i].Windows = window(int64(10*i*(i+1)/2), 10000) // the last one comes last, and then just in time
	}
	_, starts, end, e = schedule.Best(j)
	want, wantErr := schedule.Earliest(j, [][]int{upTo(7)})
	check(t, "7 tasks with windows", starts, e, want, wantErr)
	if end != 280 {
		t.Errorf("it ends at %d", end)
	}
	for _, x := range []struct {
		what  string
		sizes []int // of the teams
		want  api.Errno
	}{
		{"7", []int{7}, api.OK},
		{"8", []int{8}, api.ErrMany},
		{"7 and 2", []int{7, 2}, api.ErrMany},
		{"2 and 7", []int{2, 7}, api.ErrMany},
		{"7, and 5 of one", []int{7, 1, 1, 1, 1, 1}, api.OK},
		{"6, 3 and 1", []int{6, 3, 1}, api.OK},
		{"6, 3 and 2", []int{6, 3, 2}, api.ErrMany},
		{"5, 4 and 2, with 5,760", []int{5, 4, 2}, api.ErrMany},
		{"4, 4, 2, 2 and 2, with 4,608", []int{4, 4, 2, 2, 2}, api.OK},
		{"none of 24", []int{0, 0}, api.OK},
		{"24", []int{24}, api.ErrMany},
		{"4 of each of 6 teams", []int{4, 4, 4, 4, 4, 4}, api.ErrMany},
		{"12 and 12", []int{12, 12}, api.ErrMany},
	} {
		j := api.Job{Teams: make([]int64, len(x.sizes))}
		for team, n := range x.sizes {
			j.Tasks = append(j.Tasks, tasks(n, timed(1, team, window(0, 100)))...)
		}
		j.Tasks = append(j.Tasks, tasks(24-len(j.Tasks), free(1))...)
		_, _, _, e := schedule.Best(j)
		checkErr(t, x.what, e, x.want)
		j.Tasks[0].Windows = nil
		if x.want == api.OK {
			x.want = api.ErrPlan
		}
		_, _, _, e = schedule.Best(j)
		checkErr(t, x.what+", without a plan", e, x.want)
	}
}

// P9.7, P9.12: for any job, all orders and all their right plans are looked at.
func TestBestAny(t *testing.T) {
	r := chance(5)
	some, changed := 0, 0
	for range 1500 {
		j := anyJob(r, small)
		want, wantErr := bestOf(j, soon)
		order, starts, end, e := schedule.Best(j)
		check(t, shown(j), ended{order, starts, end}, e, want, wantErr)
		if e == api.OK {
			some++
			if shown(order) != shown(ordersOf(j)[0]) {
				changed++
			}
		}
	}
	if some < 500 || changed < 50 {
		t.Errorf("%d with a plan, %d of them not in the first order", some, changed)
	}
}
