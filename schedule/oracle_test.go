package schedule_test

import (
	"slices"

	"gooseneck/api"
)

// What follows computes results once more, from the words of the chapter: by looking at all orders, all plans, all circles and
// all times.

func fitsAt(w []api.Window, minutes, t int64) bool {
	for _, one := range w {
		if one.From <= t && t+minutes <= one.To {
			return true
		}
	}
	return false
}

// fitOf returns the first fit from a time on, minute by minute up to an end; -1 if there is none.
func fitOf(w []api.Window, minutes, from, end int64) int64 {
	for t := from; t <= end; t++ {
		if fitsAt(w, minutes, t) {
			return t
		}
	}
	return -1
}

func linksOf(j api.Job, order [][]int) []api.After {
	var l []api.After
	l = append(l, j.Afters...)
	for team, list := range order {
		for i, task := range list {
			if i < len(list)-1 {
				l = append(l, link(task, list[i+1], j.Tasks[task].Minutes+j.Teams[team]))
			}
		}
	}
	return l
}

// misfitOf returns the first task that does not fit, and brokenOf the first link that is broken; -1 if there is none.
func misfitOf(j api.Job, starts []int64) int {
	for i, t := range j.Tasks {
		if !fitsAt(t.Windows, t.Minutes, starts[i]) {
			return i
		}
	}
	return -1
}

func brokenOf(links []api.After, starts []int64) int {
	for i, l := range links {
		if starts[l.Second] < starts[l.First]+l.Lag {
			return i
		}
	}
	return -1
}

func endOf(j api.Job, starts []int64) int64 {
	end := int64(0)
	for i, t := range j.Tasks {
		if starts[i]+t.Minutes > end {
			end = starts[i] + t.Minutes
		}
	}
	return end
}

// listsOf returns all lists of n numbers, in lexicographic order, of which the number i is one of those that a function returns
// for the numbers before it.
func listsOf[N any](n int, next func(l []N) []N) [][]N {
	all := [][]N{{}}
	for range n {
		var longer [][]N
		for _, l := range all {
			for _, x := range next(l) {
				longer = append(longer, append(slices.Clone(l), x))
			}
		}
		all = longer
	}
	return all
}

// plansOf returns all starts from 0 to an end at which the tasks of a job fit.
func plansOf(j api.Job, end int64) [][]int64 {
	return listsOf(len(j.Tasks), func(l []int64) []int64 {
		t := j.Tasks[len(l)]
		var starts []int64
		for at := range end + 1 {
			if fitsAt(t.Windows, t.Minutes, at) {
				starts = append(starts, at)
			}
		}
		return starts
	})
}

// rightOf returns all plans that are right for an order.
func rightOf(plans [][]int64, links []api.After) [][]int64 {
	var l [][]int64
	for _, p := range plans {
		if brokenOf(links, p) < 0 {
			l = append(l, p)
		}
	}
	return l
}

// earliestOf returns the least start of each task in any of some plans.
func earliestOf(plans [][]int64) ([]int64, api.Errno) {
	if len(plans) == 0 {
		return nil, api.ErrPlan
	}
	least := slices.Clone(plans[0])
	for _, p := range plans {
		for i := range p {
			least[i] = min(least[i], p[i])
		}
	}
	return least, api.OK
}

// ordersOf returns all orders of a job, in their order.
func ordersOf(j api.Job) [][][]int {
	return listsOf(len(j.Teams), func(l [][]int) [][]int {
		var own []int
		for i, t := range j.Tasks {
			if t.Team == len(l) {
				own = append(own, i)
			}
		}
		return listsOf(len(own), func(list []int) []int {
			return slices.DeleteFunc(slices.Clone(own), func(i int) bool { return slices.Contains(list, i) })
		})
	})
}

// ended is what Best returns but its error.
type ended struct {
	order  [][]int
	starts []int64
	end    int64
}

// bestOf returns what Best should return, if all times are up to an end.
func bestOf(j api.Job, end int64) (ended, api.Errno) {
	best, e := ended{}, api.ErrPlan
	plans := plansOf(j, end)
	for _, order := range ordersOf(j) {
		starts, none := earliestOf(rightOf(plans, linksOf(j, order)))
		if none == api.OK && (e != api.OK || endOf(j, starts) < best.end) {
			best, e = ended{order, starts, endOf(j, starts)}, api.OK
		}
	}
	return best, e
}

// isProofOf reports whether a proof is right, if all times are up to an end.
func isProofOf(j api.Job, links []api.After, l []api.Reason, end int64) bool {
	for k, r := range l {
		if r.Task < 0 || r.Task >= len(j.Tasks) || !isFromOf(links, l[:k], r) {
			return false
		}
		t := j.Tasks[r.Task]
		if r.Start != fitOf(t.Windows, t.Minutes, r.From, end) || r.Start == -1 && k != len(l)-1 {
			return false
		}
	}
	return len(l) >= 1 && len(l) <= 20000
}

// isFromOf reports whether the From of a reason is right after earlier reasons.
func isFromOf(links []api.After, earlier []api.Reason, r api.Reason) bool {
	if r.By == -1 {
		return r.From == 0
	}
	var starts []int64
	for _, one := range earlier {
		if one.Task == r.By && one.Start != -1 {
			starts = append(starts, one.Start)
		}
	}
	for _, l := range links {
		if l.First == r.By && l.Second == r.Task && len(starts) > 0 && r.From == max(0, slices.Max(starts)+l.Lag) {
			return true
		}
	}
	return false
}

// isCircleOf reports whether a list is a circle that proves that there is no plan.
func isCircleOf(links []api.After, l []int) bool {
	sum := int64(0)
	for i, task := range l {
		next := l[0]
		if i < len(l)-1 {
			next = l[i+1]
		}
		var lags []int64
		for _, one := range links {
			if one.First == task && one.Second == next {
				lags = append(lags, one.Lag)
			}
		}
		if len(lags) == 0 || slices.Index(l, task) != i {
			return false
		}
		sum += slices.Max(lags)
	}
	return len(l) >= 2 && sum > 0
}

// hasCircle reports whether there is a circle that proves that there is no plan: any list of 2 or more of n tasks.
func hasCircle(n int, links []api.After) bool {
	for size := 2; size <= n; size++ {
		all := listsOf(size, func(l []int) []int {
			return slices.DeleteFunc(upTo(n), func(i int) bool { return slices.Contains(l, i) })
		})
		for _, l := range all {
			if isCircleOf(links, l) {
				return true
			}
		}
	}
	return false
}

// checkCrewOf returns what CheckCrew should return for a crew and starts that are valid.
func checkCrewOf(legs []api.Leg, most, rest, start int64, starts []int64) (int, api.Errno) {
	for i, l := range legs {
		isAfter := i == 0 || starts[i] >= starts[i-1]+legs[i-1].Minutes
		if !fitsAt(l.Windows, l.Minutes, starts[i]) || starts[i] < start || !isAfter {
			return i, api.ErrRule
		}
	}
	for i := range legs {
		sum := legs[i].Minutes
		for k := i; k > 0 && starts[k]-starts[k-1]-legs[k-1].Minutes < rest; k-- {
			sum += legs[k-1].Minutes
		}
		if sum > most {
			return i, api.ErrHave
		}
	}
	return 0, api.OK
}

// crewOf returns what Crew should return, if all times are up to an end.
func crewOf(legs []api.Leg, most, rest, start, end int64) ([]int64, api.Errno) {
	if len(legs) == 0 {
		return nil, api.OK
	}
	all := listsOf(len(legs), func(l []int64) []int64 {
		free, leg := start, legs[len(l)]
		if len(l) > 0 {
			free = l[len(l)-1] + legs[len(l)-1].Minutes
		}
		var starts []int64
		for t := free; t <= end; t++ {
			if fitsAt(leg.Windows, leg.Minutes, t) {
				starts = append(starts, t)
			}
		}
		return starts
	})
	var best []int64
	e := api.ErrPlan
	for _, l := range all {
		_, wrong := checkCrewOf(legs, most, rest, start, l)
		if wrong == api.OK && (best == nil || l[len(l)-1] < best[len(l)-1]) {
			best, e = l, api.OK
		}
	}
	return best, e
}
