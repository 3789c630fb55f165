package schedule

import (
	"cmp"
	"iter"
	"slices"

	"gooseneck/api"
)

// CheckOrder reports whether an order is one of a job. (P9.1)
func CheckOrder(j api.Job, order [][]int) api.Errno {
	if e := Check(j); e != api.OK {
		return e
	}
	if len(order) != len(j.Teams) {
		return api.ErrEqual
	}
	for team, own := range firstOrder(j) {
		if !slices.Equal(own, slices.Sorted(slices.Values(order[team]))) {
			return api.ErrArg
		}
	}
	return api.OK
}

// Links returns the links of an order. (P9.1)
func Links(j api.Job, order [][]int) ([]api.After, api.Errno) {
	if e := CheckOrder(j, order); e != api.OK {
		return nil, e
	}
	return linksOf(j, order), api.OK
}

func linksOf(j api.Job, order [][]int) []api.After {
	links := slices.Clone(j.Afters)
	for team, list := range order {
		for k := range max(0, len(list)-1) {
			first, second := list[k], list[k+1]
			links = append(links, api.After{First: first, Second: second, Lag: j.Tasks[first].Minutes + j.Teams[team]})
		}
	}
	return links
}

// OrderOf returns the order of a plan. (P9.3)
func OrderOf(j api.Job, starts []int64) ([][]int, api.Errno) {
	if e := cmp.Or(Check(j), checkStarts(j, starts)); e != api.OK {
		return nil, e
	}
	order := firstOrder(j)
	for _, list := range order {
		slices.SortFunc(list, func(a, b int) int {
			return cmp.Or(cmp.Compare(starts[a], starts[b]), cmp.Compare(j.Tasks[a].Minutes, j.Tasks[b].Minutes), cmp.Compare(a, b))
		})
	}
	return order, api.OK
}

// firstOrder returns the first order of a job: the tasks of each team, increasing.
func firstOrder(j api.Job) [][]int {
	order := make([][]int, len(j.Teams))
	for i, t := range j.Tasks {
		if t.Team != none {
			order[t.Team] = append(order[t.Team], i)
		}
	}
	return order
}

// areFew reports whether the orders of a job are not too many.
func areFew(j api.Job) bool {
	orders := 1
	for _, list := range firstOrder(j) {
		for i := range list {
			orders *= i + 1
			if orders > api.MaxOrders {
				return false
			}
		}
	}
	return true
}

// orders yields all orders of a job.
func orders(j api.Job) iter.Seq[[][]int] {
	return func(yield func([][]int) bool) {
		order := firstOrder(j)
		for isOrder := true; isOrder && yield(cloneOrder(order)); isOrder = advance(order) {
		}
	}
}

func cloneOrder(order [][]int) [][]int {
	order = slices.Clone(order)
	for team := range order {
		order[team] = slices.Clone(order[team])
	}
	return order
}

// advance makes an order the next one. It reports whether there is one; otherwise the order is the first one again.
func advance(order [][]int) bool {
	for _, list := range slices.Backward(order) {
		if permute(list) {
			return true
		}
	}
	return false
}

// permute arranges a list as the next one in lexicographic order. It reports whether there is one; otherwise the list is the
// first one again.
func permute(list []int) bool {
	tail := max(0, len(list)-1) // where the longest end begins that is decreasing
	for tail > 0 && list[tail-1] > list[tail] {
		tail--
	}
	slices.Reverse(list[tail:])
	if tail == 0 {
		return false
	}
	greater := slices.IndexFunc(list[tail:], func(n int) bool { return n > list[tail-1] })
	list[tail-1], list[tail+greater] = list[tail+greater], list[tail-1]
	return true
}
