package road

import (
	"cmp"
	"slices"

	"gooseneck/api"
)

// IsRoute reports whether roads are a route. (P7.2)
func IsRoute(m api.Map, from, to int, roads []int) (bool, api.Errno) {
	if e := cmp.Or(Check(m), checkPlaces(m, from, to), checkRoads(m, roads)); e != api.OK {
		return false, e
	}
	place, visited := from, one(from)
	for _, i := range roads {
		r := m.Roads[i]
		if r.From != place || visited.has(r.To) {
			return false, api.OK
		}
		place = r.To
		visited |= one(place)
	}
	return place == to, api.OK
}

// Works returns the cheapest works for roads, and their cost. (P7.3)
func Works(m api.Map, size [6]int64, roads []int) ([]int, int64, api.Errno) {
	if e := cmp.Or(Check(m), CheckSize(size), checkRoads(m, roads)); e != api.OK {
		return nil, 0, e
	}
	s := surveyOf(m, size)
	var needs []need
	for _, i := range roads {
		needs = append(needs, s.needs[i]...)
	}
	works, cost := least(sets(len(m.Works)), func(works set) int64 {
		if slices.ContainsFunc(needs, func(n need) bool { return !n.isMet(works) }) {
			return never
		}
		return s.price(works)
	})
	if cost == never {
		return nil, 0, api.ErrPlan
	}
	return works.list(), cost, api.OK
}

// Cheapest returns the cheapest route, with its works. (P7.4)
func Cheapest(m api.Map, size [6]int64, from, to int) (api.Route, api.Errno) {
	if e := cmp.Or(Check(m), CheckSize(size), checkPlaces(m, from, to)); e != api.OK {
		return api.Route{}, e
	}
	s := surveyOf(m, size)
	works, cost := least(sets(len(m.Works)), func(works set) int64 {
		cost := net{s, works, s.pay}.numbers(from, 0, 0)[to]
		if cost == never {
			return never
		}
		return cost + s.price(works)
	})
	if cost == never {
		return api.Route{}, api.ErrPlan
	}
	route := api.Route{Roads: net{s, works, s.pay}.first(from, to, 0), Works: works.list(), Cost: cost}
	for _, i := range route.Roads {
		route.Minutes += m.Roads[i].Minutes
	}
	return route, api.OK
}

// pay returns what is paid behind a road, of what is paid ahead of it.
func (s survey) pay(road int, ahead int64) int64 { return ahead + s.Roads[road].Cost }
