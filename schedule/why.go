package schedule

import (
	"slices"

	"gooseneck/api"
)

// Why returns a proof that a task cannot begin earlier, or that there is no plan. (P9.5)
//
// A proof goes back from step to step. Of these, at most as many as all tasks have windows wait for one, and between two of
// them no task comes twice: MaxReasons is enough.
func Why(j api.Job, order [][]int, task int) ([]api.Reason, api.Errno) {
	if e := CheckOrder(j, order); e != api.OK {
		return nil, e
	}
	if !isWithin(task, 0, len(j.Tasks)-1) {
		return nil, api.ErrRange
	}
	links := linksOf(j, order)
	if len(circle(j, links)) > 0 {
		return nil, api.ErrSum
	}
	steps, end := raise(len(j.Tasks), links, inWindows(j, api.MaxTime))
	if end == nil {
		end = steps[task]
	}
	return end.proof(), api.OK
}

// CheckWhy reports whether a proof is right. (P9.5)
func CheckWhy(j api.Job, order [][]int, l []api.Reason) api.Errno {
	if e := CheckOrder(j, order); e != api.OK {
		return e
	}
	if len(l) > api.MaxReasons {
		return api.ErrMany
	}
	links := linksOf(j, order)
	starts := slices.Repeat([]int64{none}, len(j.Tasks)) // the greatest ones so far
	for i, r := range l {
		if !isReason(j, links, starts, r) || r.Start == none && i < len(l)-1 {
			return api.ErrSum
		}
		starts[r.Task] = max(starts[r.Task], r.Start)
	}
	if len(l) == 0 {
		return api.ErrSum
	}
	return api.OK
}

// isReason reports whether a reason is right after others, of which the greatest starts are given.
func isReason(j api.Job, links []api.After, starts []int64, r api.Reason) bool {
	if !isWithin(r.Task, 0, len(j.Tasks)-1) || !isFrom(links, starts, r) {
		return false
	}
	t := j.Tasks[r.Task]
	return r.Start == firstFit(t.Windows, t.Minutes, r.From)
}

// isFrom reports whether a reason has the right From.
func isFrom(links []api.After, starts []int64, r api.Reason) bool {
	if r.By == none {
		return r.From == 0
	}
	return slices.ContainsFunc(links, func(l api.After) bool {
		return l.First == r.By && l.Second == r.Task && starts[r.By] != none && r.From == max(0, starts[r.By]+l.Lag)
	})
}

// Circle returns a circle that proves that there is no plan. (P9.6)
func Circle(j api.Job, order [][]int) ([]int, api.Errno) {
	if e := CheckOrder(j, order); e != api.OK {
		return nil, e
	}
	l := circle(j, linksOf(j, order))
	if len(l) == 0 {
		return nil, api.ErrPlan
	}
	return l, api.OK
}

// circle returns a circle with a sum above 0, nothing if there is none. Without windows, just such a circle keeps raising the
// starts.
func circle(j api.Job, links []api.After) []int {
	_, end := raise(len(j.Tasks), links, anywhere)
	if end == nil {
		return nil
	}
	return end.circle()
}

// CheckCircle reports whether a circle proves that there is no plan. (P9.6)
func CheckCircle(j api.Job, order [][]int, l []int) api.Errno {
	if e := CheckOrder(j, order); e != api.OK {
		return e
	}
	if len(l) > api.MaxTasks {
		return api.ErrMany
	}
	if !isCircle(linksOf(j, order), l) {
		return api.ErrSum
	}
	return api.OK
}

// isCircle reports whether a list is a circle with a sum above 0.
func isCircle(links []api.After, l []int) bool {
	var sum int64
	for i, task := range l {
		lag, isLinked := greatestLag(links, task, l[(i+1)%len(l)])
		if !isLinked || slices.Contains(l[:i], task) {
			return false
		}
		sum += lag
	}
	return sum > 0
}

// greatestLag returns the greatest lag of the links from a task to another one, and whether there are any.
func greatestLag(links []api.After, first, second int) (int64, bool) {
	var lags []int64
	for _, l := range links {
		if l.First == first && l.Second == second {
			lags = append(lags, l.Lag)
		}
	}
	if len(lags) == 0 {
		return 0, false
	}
	return slices.Max(lags), true
}
