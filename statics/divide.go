package statics

import (
	"cmp"
	"iter"
	"slices"

	"gooseneck/api"
)

// Divide returns the division with the least load. (P4.7)
func Divide(p []api.Support, mass int64, at api.Point) (api.Regroup, api.Errno) {
	if e := checkBorne(p, mass, at); e != api.OK {
		return api.Regroup{}, e
	}
	best := lightest(p, mass, at)
	if best.Groups == nil {
		return api.Regroup{}, api.ErrPlan
	}
	return best, api.OK
}

// lightest returns the first of the divisions with the least load; without groups if none is possible.
func lightest(p []api.Support, mass int64, at api.Point) api.Regroup {
	var best api.Regroup
	// All axles together carry the mass, so that in no division all of them carry less than this.
	least := fraction{mass, int64(len(p))}.up(1)
search:
	for groups := range divisions(p) {
		load, isPossible := heaviest(p, groups, mass, at)
		switch {
		case !isPossible:
			continue
		case load == least:
			best = api.Regroup{Groups: groups, Load: load}
			break search
		case best.Groups == nil || load < best.Load:
			best = api.Regroup{Groups: groups, Load: load}
		}
	}
	return best
}

// divisions yields the groups of the supports for each division.
func divisions(p []api.Support) iter.Seq[[]int] {
	return func(yield func([]int) bool) {
		order, n := inOrder(p), len(p)
		for k := 1; k <= n-2; k++ {
			if !yield(divided(p, order[k:])) || !yield(divided(p, order[:n-k])) {
				return
			}
		}
	}
}

// inOrder returns the indexes of the supports in the order in which they are divided.
func inOrder(p []api.Support) []int {
	var order []int
	for i := range p {
		order = append(order, i)
	}
	slices.SortFunc(order, func(a, b int) int {
		return cmp.Or(cmp.Compare(p[a].X, p[b].X), cmp.Compare(p[a].Y, p[b].Y), cmp.Compare(a, b))
	})
	return order
}

// divided returns the groups of the division in which some supports are divided by their Y; all others are the group 0.
func divided(p []api.Support, some []int) []int {
	var sum int64
	for _, i := range some {
		sum += p[i].Y
	}
	groups := make([]int, len(p))
	for _, i := range some {
		if p[i].Y*int64(len(some)) > sum {
			groups[i] = 1
		} else {
			groups[i] = 2
		}
	}
	return groups
}

// heaviest returns the greatest load of an axle in a division, and whether it is possible.
func heaviest(p []api.Support, groups []int, mass int64, at api.Point) (int64, bool) {
	regrouped := slices.Clone(p)
	for i, group := range groups {
		regrouped[i].Group = group
	}
	// The errors that are left are just those why a division is not possible.
	shares, e := Shares(regrouped, mass, at)
	return slices.Max(shares[:]), e == api.OK
}
