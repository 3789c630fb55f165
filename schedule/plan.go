package schedule

import (
	"cmp"
	"slices"

	"gooseneck/api"
)

// plan is starts for the tasks of a job, with the links of an order.
type plan struct {
	tasks  []api.Task
	links  []api.After
	starts []int64
}

// CheckPlan reports whether a plan is right. (P9.3)
func CheckPlan(j api.Job, order [][]int, starts []int64) (int, api.Errno) {
	if e := cmp.Or(CheckOrder(j, order), checkStarts(j, starts)); e != api.OK {
		return 0, e
	}
	p := plan{j.Tasks, linksOf(j, order), starts}
	return judge(p, fault[plan]{plan.misfit, api.ErrRule}, fault[plan]{plan.brokenLink, api.ErrSum})
}

// checkStarts returns the errors of starts for the tasks of a job.
func checkStarts(j api.Job, starts []int64) api.Errno {
	if len(starts) != len(j.Tasks) {
		return api.ErrEqual
	}
	if !areAll(starts, isTime) {
		return api.ErrRange
	}
	return api.OK
}

// misfit returns the number of the first task that does not fit.
func (p plan) misfit() int {
	for i, t := range p.tasks {
		if !fits(t.Windows, t.Minutes, p.starts[i]) {
			return i
		}
	}
	return none
}

// brokenLink returns the index of the first link that is broken.
func (p plan) brokenLink() int {
	return slices.IndexFunc(p.links, func(l api.After) bool { return p.starts[l.Second] < p.starts[l.First]+l.Lag })
}

// end returns when a plan ends.
func (p plan) end() int64 {
	var end int64
	for i, t := range p.tasks {
		end = max(end, p.starts[i]+t.Minutes)
	}
	return end
}

// Earliest returns the earliest plan. (P9.4)
func Earliest(j api.Job, order [][]int) ([]int64, api.Errno) {
	if e := CheckOrder(j, order); e != api.OK {
		return nil, e
	}
	p, isPlan := earliest(j, order, api.MaxTime)
	if !isPlan {
		return nil, api.ErrPlan
	}
	return p.starts, api.OK
}

// earliest returns the earliest plan for an order, and whether there is one that ends in time.
func earliest(j api.Job, order [][]int, end int64) (plan, bool) {
	p := plan{tasks: j.Tasks, links: linksOf(j, order)}
	steps, _ := raise(len(j.Tasks), p.links, inWindows(j, end))
	for _, s := range steps {
		p.starts = append(p.starts, s.Start)
	}
	return p, steps != nil
}

// Best returns the best order with its plan, and when this ends. (P9.7)
func Best(j api.Job) ([][]int, []int64, int64, api.Errno) {
	if e := Check(j); e != api.OK {
		return nil, nil, 0, e
	}
	if !areFew(j) {
		return nil, nil, 0, api.ErrMany
	}
	var best [][]int
	var starts []int64
	end := int64(api.MaxTime + 1)
	// Each order has to end sooner than those before it: of equal ones, the first one stays.
	for order := range orders(j) {
		if p, isSooner := earliest(j, order, end-1); isSooner {
			best, starts, end = order, p.starts, p.end()
		}
	}
	if end > api.MaxTime {
		return nil, nil, 0, api.ErrPlan
	}
	return best, starts, end, api.OK
}
