package schedule_test

import (
	"math"
	"math/rand/v2"
	"slices"
	"testing"

	"gooseneck/api"
	"gooseneck/schedule"
)

// P9.5
func TestWhy(t *testing.T) {
	order := [][]int{{0, 1}}
	late := example()
	late.Tasks[1].Windows = window(0, 100)
	for _, x := range []struct {
		what string
		j    api.Job
		task int
		want []api.Reason
		e    api.Errno
	}{
		{"the example", example(), 1, []api.Reason{reason(0, -1, 0, 0), reason(1, 0, 90, 1000)}, api.OK},
		{"a task that begins at 0", example(), 0, []api.Reason{reason(0, -1, 0, 0)}, api.OK},
		{"another link", example(), 2, []api.Reason{reason(0, -1, 0, 0), reason(2, 0, 50, 1000)}, api.OK},
		{"no plan", late, 0, []api.Reason{reason(0, -1, 0, 0), reason(1, 0, 90, -1)}, api.OK},
		{"no plan, of the task that has none", late, 1, []api.Reason{reason(0, -1, 0, 0), reason(1, 0, 90, -1)}, api.OK},
		{"a task below 0", example(), -1, nil, api.ErrRange},
		{"a task that there is not", example(), 3, nil, api.ErrRange},
		{"a circle", withLinks(example(), link(2, 0, -49)), 1, nil, api.ErrSum},
		{"a circle, and no windows", withLinks(late, link(2, 0, -49)), 1, nil, api.ErrSum},
		{"a circle, and no such task", withLinks(example(), link(2, 0, -49)), 3, nil, api.ErrRange},
		{"a circle with a sum of 0", withLinks(example(), link(2, 0, -50)), 0, []api.Reason{
			reason(0, -1, 0, 0), reason(2, 0, 50, 1000), reason(0, 2, 950, 1000),
		}, api.OK},
	} {
		got, e := schedule.Why(x.j, order, x.task)
		check(t, x.what, got, e, x.want, x.e)
	}
	got, e := schedule.Why(api.Job{Tasks: tasks(2, timed(0, -1, nil))}, nil, 1)
	check(t, "no windows", got, e, []api.Reason{reason(0, -1, 0, -1)}, api.OK)
}

// P9.5: what is wrong with proofs.
func TestCheckWhy(t *testing.T) {
	j := withLinks(example(), link(0, 2, -60), link(2, 1, 10))
	begin, again := reason(0, -1, 0, 0), reason(2, 0, 50, 1000)
	for _, x := range []struct {
		what string
		l    []api.Reason
		want api.Errno
	}{
		{"the example", []api.Reason{begin, reason(1, 0, 90, 1000)}, api.OK},
		{"one reason", []api.Reason{begin}, api.OK},
		{"a task that could begin at 0", []api.Reason{reason(1, -1, 0, 0)}, api.OK},
		{"no reasons", nil, api.ErrSum},
		{"no earlier reason", []api.Reason{reason(1, 0, 90, 1000)}, api.ErrSum},
		{"a later reason", []api.Reason{reason(1, 0, 90, 1000), begin}, api.ErrSum},
		{"a reason that is for nothing", []api.Reason{begin, reason(1, -1, 0, 0), reason(1, 0, 90, 1000)}, api.OK},
		{"a reason twice", []api.Reason{begin, begin, reason(1, 0, 90, 1000), reason(1, 0, 90, 1000)}, api.OK},
		{"a link below 0", []api.Reason{begin, reason(2, 0, 0, 0)}, api.OK},
		{"a link below 0, not as 0", []api.Reason{begin, reason(2, 0, -60, 0)}, api.ErrSum},
		{"the greater of two links", []api.Reason{begin, again}, api.OK},
		{"a chain", []api.Reason{begin, again, reason(1, 2, 1010, 1010)}, api.OK},
		{"the greatest start so far", []api.Reason{begin, reason(2, 0, 0, 0), again, reason(1, 2, 1010, 1010)}, api.OK},
		{"not the last start", []api.Reason{begin, again, reason(2, 0, 0, 0), reason(1, 2, 1010, 1010)}, api.OK},
		{"the last start, and not the greatest one", []api.Reason{begin, again, reason(2, 0, 0, 0), reason(1, 2, 10, 10)}, api.ErrSum},
		{"too late a from", []api.Reason{begin, reason(1, 0, 91, 1000)}, api.ErrSum},
		{"too early a from", []api.Reason{begin, reason(1, 0, 89, 1000)}, api.ErrSum},
		{"from a link to another task", []api.Reason{begin, reason(1, 0, 50, 1000)}, api.ErrSum},
		{"from a task without a link", []api.Reason{reason(1, -1, 0, 0), reason(0, 1, 0, 0)}, api.ErrSum},
		{"from itself", []api.Reason{begin, reason(0, 0, 0, 0)}, api.ErrSum},
		{"from not 0 by none", []api.Reason{reason(0, -1, 1, 1)}, api.ErrSum},
		{"too late a start", []api.Reason{reason(0, -1, 0, 1)}, api.ErrSum},
		{"too early a start", []api.Reason{begin, reason(1, 0, 90, 999)}, api.ErrSum},
		{"no start, but there is one", []api.Reason{begin, reason(1, 0, 90, -1)}, api.ErrSum},
		{"a task that there is not", []api.Reason{begin, reason(3, 0, 90, 1000)}, api.ErrSum},
		{"a task below 0", []api.Reason{reason(-1, -1, 0, 0)}, api.ErrSum},
		{"by a task that there is not", []api.Reason{begin, reason(1, 3, 90, 1000)}, api.ErrSum},
		{"by a task below -1", []api.Reason{reason(1, -2, 0, 0)}, api.ErrSum},
		{"the least numbers", []api.Reason{reason(math.MinInt, math.MinInt, math.MinInt64, math.MinInt64)}, api.ErrSum},
		{"the greatest numbers", []api.Reason{reason(math.MaxInt, math.MaxInt, math.MaxInt64, math.MaxInt64)}, api.ErrSum},
		{"20,000 reasons", slices.Repeat([]api.Reason{begin}, 20000), api.OK},
		{"20,000 reasons, the last one wrong", append(slices.Repeat([]api.Reason{begin}, 19999), reason(0, -1, 0, 1)), api.ErrSum},
		{"20,001 reasons", slices.Repeat([]api.Reason{begin}, 20001), api.ErrMany},
		{"20,001 wrong reasons", make([]api.Reason, 20001), api.ErrMany},
	} {
		checkErr(t, x.what, schedule.CheckWhy(j, [][]int{{0, 1}}, x.l), x.want)
	}
}

// P9.5: only the last reason may have no start.
func TestCheckWhyWithoutStart(t *testing.T) {
	j := withLinks(example(), link(1, 2, 5))
	j.Tasks[1].Windows, j.Tasks[2].Windows = window(0, 100), nil
	begin, end := reason(0, -1, 0, 0), reason(1, 0, 90, -1)
	for _, x := range []struct {
		what string
		l    []api.Reason
		want api.Errno
	}{
		{"the last one", []api.Reason{begin, end}, api.OK},
		{"the first one of one", []api.Reason{reason(2, -1, 0, -1)}, api.OK},
		{"twice", []api.Reason{begin, end, end}, api.ErrSum},
		{"not the last one", []api.Reason{begin, end, begin}, api.ErrSum},
		{"by one without a start", []api.Reason{begin, end, reason(2, 1, 4, -1)}, api.ErrSum},
		{"0 for none", []api.Reason{begin, reason(1, 0, 90, 0)}, api.ErrSum},
		{"its from for none", []api.Reason{begin, reason(1, 0, 90, 90)}, api.ErrSum},
		{"-2 for none", []api.Reason{begin, reason(1, 0, 90, -2)}, api.ErrSum},
	} {
		checkErr(t, x.what, schedule.CheckWhy(j, [][]int{{0, 1}}, x.l), x.want)
	}
}

// P9.5, P9.10: the proofs of any job, and that each of its tasks begins when they say.
func TestWhyAny(t *testing.T) {
	r := chance(6)
	count := map[string]int{}
	for range 4000 {
		j := anyJob(r, pick(r, small, small, small, large))
		order := anyOrder(r, j)
		earliest, none := schedule.Earliest(j, order)
		_, noCircle := schedule.Circle(j, order)
		for task := range j.Tasks {
			l, e := schedule.Why(j, order, task)
			if e != api.OK {
				count["circle"]++
				if e != api.ErrSum || noCircle != api.OK || none != api.ErrPlan {
					t.Fatalf("errors %d, %d, %d of %v", e, noCircle, none, j)
				}
				continue
			}
			last := l[len(l)-1]
			isRight := none == api.OK && last.Task == task && last.Start == earliest[task] || none == api.ErrPlan && last.Start == -1
			if !isRight || noCircle != api.ErrPlan || !isProofOf(j, linksOf(j, order), l, 1<<17) {
				t.Fatalf("%v proves nothing for the task %d of %v", l, task, j)
			}
			checkErr(t, "CheckWhy", schedule.CheckWhy(j, order, l), api.OK)
			count[shown(none)]++
			if len(l) > 3 {
				count["long"]++
			}
		}
	}
	if len(count) < 4 || slices.Min([]int{count["circle"], count["0"], count["15"], count["long"]}) < 500 {
		t.Errorf("too few of a kind: %v", count)
	}
}

// P9.5: proofs that are changed somewhere are as right as the chapter says, and prove what it says.
func TestCheckWhyAny(t *testing.T) {
	r := chance(7)
	right, proves := 0, 0
	for range 6000 {
		j := anyJob(r, small)
		order := anyOrder(r, j)
		links := linksOf(j, order)
		l := anyProof(r, j, links)
		want := api.OK
		if !isProofOf(j, links, l, 60) {
			want = api.ErrSum
		}
		if e := schedule.CheckWhy(j, order, l); e != want {
			t.Fatalf("%v of %v: error %d, want %d", l, j, e, want)
		}
		if want != api.OK {
			continue
		}
		right++
		last := l[len(l)-1]
		for _, p := range rightOf(plansOf(j, soon), links) {
			proves++
			if last.Start == -1 || p[last.Task] < last.Start {
				t.Fatalf("%v is a right plan, against %v", p, l)
			}
		}
	}
	if right < 1500 || right > 4500 || proves < 10000 {
		t.Errorf("%d are right, for %d plans", right, proves)
	}
}

// anyProof returns reasons that follow from one another, of which one may be changed.
func anyProof(r *rand.Rand, j api.Job, links []api.After) []api.Reason {
	var l []api.Reason
	for range 1 + r.IntN(6) {
		next := reason(r.IntN(len(j.Tasks)), -1, 0, 0)
		if len(links) > 0 && len(l) > 0 && r.IntN(4) > 0 {
			one := links[r.IntN(len(links))]
			next = reason(one.Second, one.First, 0, 0)
			for _, earlier := range l {
				if earlier.Task == one.First {
					next.From = max(next.From, earlier.Start+one.Lag)
				}
			}
		}
		next.Start = fitOf(j.Tasks[next.Task].Windows, j.Tasks[next.Task].Minutes, next.From, 60)
		if l = append(l, next); next.Start == -1 {
			break
		}
	}
	changed := &l[r.IntN(len(l))]
	switch r.IntN(10) {
	case 0:
		changed.Start += from(r, -1, 1)
	case 1:
		changed.From += from(r, -1, 1)
	case 2:
		changed.By = r.IntN(len(j.Tasks)+1) - 1
	}
	return l
}

// P9.6
func TestCircle(t *testing.T) {
	order := [][]int{{0, 1}}
	parallel := jobOf(3, link(0, 1, -9), link(1, 2, -9), link(2, 0, -9), link(1, 2, 10), link(0, 1, 5), link(2, 0, -14))
	for _, x := range []struct {
		what  string
		j     api.Job
		order [][]int
		want  api.Errno
	}{
		{"the example", example(), order, api.ErrPlan},
		{"the example with -49", withLinks(example(), link(2, 0, -49)), order, api.OK},
		{"the example with -50", withLinks(example(), link(2, 0, -50)), order, api.ErrPlan},
		{"a team and a link", withLinks(example(), link(1, 0, -89)), order, api.OK},
		{"a team and a link, with a sum of 0", withLinks(example(), link(1, 0, -90)), order, api.ErrPlan},
		{"a team in another order", withLinks(example(), link(1, 0, 0)), [][]int{{1, 0}}, api.ErrPlan},
		{"the greatest of more links", parallel, nil, api.OK},
		{"one task", jobOf(1), nil, api.ErrPlan},
		{"no circle", jobOf(3, link(0, 1, 1), link(1, 2, 1), link(0, 2, 1)), nil, api.ErrPlan},
		{"no windows", api.Job{Tasks: tasks(2, timed(1, -1, nil)), Afters: []api.After{link(0, 1, 1), link(1, 0, 0)}}, nil, api.OK},
		{"no windows, and no circle", api.Job{Tasks: tasks(2, timed(1, -1, nil))}, nil, api.ErrPlan},
		{"circles that meet", jobOf(3, link(0, 1, 5), link(1, 0, -6), link(1, 2, 5), link(2, 1, -4)), nil, api.OK},
		{"the greatest lags", jobOf(2, link(0, 1, 1<<20), link(1, 0, 1<<20)), nil, api.OK},
		{"no order", example(), nil, api.ErrEqual},
	} {
		l, e := schedule.Circle(x.j, x.order)
		checkErr(t, x.what, e, x.want)
		if e == api.OK {
			checkErr(t, "CheckCircle: "+x.what, schedule.CheckCircle(x.j, x.order, l), api.OK)
		} else if len(l) > 0 {
			t.Errorf("%s: %v with an error", x.what, l)
		}
	}
}

// ring returns links from each of n tasks to the next one, those of the last ones first; their sum is a number.
func ring(n int, sum int64) []api.After {
	l := []api.After{link(n-1, 0, sum-int64(n-1))}
	for i := n - 1; i > 0; i-- {
		l = append(l, link(i-1, i, 1))
	}
	return l
}

// P9.6: a circle of all 24 tasks.
func TestCircleLong(t *testing.T) {
	l, e := schedule.Circle(jobOf(24, ring(24, 1)...), nil)
	if e != api.OK || len(l) != 24 {
		t.Errorf("%v, %d", l, e)
	}
	checkErr(t, "CheckCircle", schedule.CheckCircle(jobOf(24, ring(24, 1)...), nil, l), api.OK)
	l, e = schedule.Circle(jobOf(24, ring(24, 0)...), nil)
	check(t, "a sum of 0", l, e, nil, api.ErrPlan)
}

// P9.6: what is wrong with circles.
func TestCheckCircle(t *testing.T) {
	j := jobOf(24, link(0, 1, 5), link(1, 0, -4), link(1, 0, -9), link(1, 2, 3), link(2, 0, -8), link(2, 3, 0), link(3, 2, 0))
	j.Afters = append(j.Afters, link(4, 5, -3), link(5, 6, -3), link(6, 4, 7))
	for _, x := range []struct {
		what string
		l    []int
		want api.Errno
	}{
		{"the greatest of two links", []int{0, 1}, api.OK},
		{"from another task on", []int{1, 0}, api.OK},
		{"a sum of 0", []int{0, 1, 2}, api.ErrSum},
		{"lags of 0", []int{2, 3}, api.ErrSum},
		{"a sum of 1, not the first lag", []int{4, 5, 6}, api.OK},
		{"a sum of 1, the first lag", []int{6, 4, 5}, api.OK},
		{"backward", []int{6, 5, 4}, api.ErrSum},
		{"nothing", nil, api.ErrSum},
		{"one task", []int{0}, api.ErrSum},
		{"one task twice", []int{0, 0}, api.ErrSum},
		{"a circle twice", []int{0, 1, 0, 1}, api.ErrSum},
		{"a circle with its first task at the end", []int{0, 1, 0}, api.ErrSum},
		{"not closed", []int{0, 1, 2, 3}, api.ErrSum},
		{"two circles", []int{0, 1, 4, 5, 6}, api.ErrSum},
		{"a task that there is not", []int{0, 1, 24}, api.ErrSum},
		{"a task below 0", []int{-1, 0}, api.ErrSum},
		{"the least and the greatest number", []int{math.MinInt, math.MaxInt}, api.ErrSum},
		{"24 tasks", upTo(24), api.ErrSum},
		{"25 tasks", upTo(25), api.ErrMany},
		{"a circle of 26", slices.Repeat([]int{0, 1}, 13), api.ErrMany},
	} {
		checkErr(t, x.what, schedule.CheckCircle(j, nil, x.l), x.want)
	}
}

// P9.6, P9.10: for any order, all circles are looked at; where there is one, there is no plan.
func TestCircleAny(t *testing.T) {
	r := chance(8)
	some, right := 0, 0
	for range 4000 {
		j := anyJob(r, extent{5, 10, 2, 3, 3, 8})
		order := anyOrder(r, j)
		links := linksOf(j, order)
		has := hasCircle(len(j.Tasks), links)
		l, e := schedule.Circle(j, order)
		if has != (e == api.OK) || has != isCircleOf(links, l) || !has && e != api.ErrPlan {
			t.Fatalf("%v, %d for %v, %v", l, e, links, has)
		}
		if _, none := schedule.Earliest(j, order); has && none != api.ErrPlan {
			t.Errorf("a plan, in spite of %v", l)
		}
		list := r.Perm(len(j.Tasks))[:r.IntN(len(j.Tasks)+1)]
		want := api.ErrSum
		if isCircleOf(links, list) {
			want = api.OK
			right++
		}
		checkErr(t, shown(list), schedule.CheckCircle(j, order, list), want)
		if has {
			some++
		}
	}
	if some < 400 || right < 50 {
		t.Errorf("%d circles, and %d of other lists", some, right)
	}
}

// longest returns a job of n tasks in a ring, with as many windows as can be. Each time that a task waits for its next window, it pulls
// all others along, up to the one ahead of it, which then has to wait.
func longest(n int) api.Job {
	j := jobOf(n, ring(n, 0)...)
	for i := range j.Tasks {
		gap := (n - i) % n // the time that the task 0 cannot have, because of this one
		var w []api.Window
		begin := int64(0)
		for len(w) < api.MaxWindows-1 {
			w = append(w, window(begin, int64(i+gap-1))...)
			begin, gap = int64(i+gap+1), gap+n
		}
		j.Tasks[i].Windows = append(w, window(begin, 100000)...)
		if w := j.Tasks[i].Windows; w[0].To <= w[0].From {
			j.Tasks[i].Windows = w[1:]
		}
	}
	return j
}

// P9.5, P1: proofs of jobs at the limits of the chapter have at most 20,000 reasons, and are found in time.
func TestWhyLongest(t *testing.T) {
	j := longest(24)
	checkErr(t, "Check", schedule.Check(j), api.OK)
	starts := must[[]int64](t, "Earliest")(schedule.Earliest(j, nil))
	for task := range j.Tasks {
		l := must[[]api.Reason](t, "Why")(schedule.Why(j, nil, task))
		checkErr(t, "CheckWhy", schedule.CheckWhy(j, nil, l), api.OK)
		if last := l[len(l)-1]; len(l) < 16000 || last.Task != task || last.Start != starts[task] {
			t.Errorf("only %d reasons, up to %v", len(l), last)
		}
	}
	j.Tasks[12].Windows = j.Tasks[12].Windows[:31]
	l := must[[]api.Reason](t, "Why")(schedule.Why(j, nil, 0))
	checkErr(t, "CheckWhy without a plan", schedule.CheckWhy(j, nil, l), api.OK)
	if last := l[len(l)-1]; len(l) < 16000 || last.Start != -1 {
		t.Errorf("only %d reasons, up to %v", len(l), last)
	}
}

// P9.7, P1: a job of which all orders wait for many windows is planned in time.
func TestBestLongest(t *testing.T) {
	j := longest(19)
	j.Teams = []int64{0}
	j.Tasks = append(j.Tasks, tasks(5, timed(1, 0, window(0, 100000)))...)
	order, starts, _, e := schedule.Best(j)
	first := [][]int{{19, 20, 21, 22, 23}}
	check(t, "the order", order, e, first, api.OK)
	check(t, "the plan", starts, e, must[[]int64](t, "Earliest")(schedule.Earliest(j, first)), api.OK)
}
