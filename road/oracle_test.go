package road_test

import (
	"math/big"
	"slices"

	"gooseneck/api"
)

// What follows computes results once more, from the words of the chapter: by looking at all routes, and all sets of works.

func limitOf(m api.Map, works []int, road, measure int) int64 {
	limit := m.Roads[road].Limit[measure]
	for _, w := range works {
		if slices.Contains(m.Works[w].Roads, road) && m.Works[w].Measure == measure && m.Works[w].Limit > limit {
			limit = m.Works[w].Limit
		}
	}
	return limit
}

func causesOf(m api.Map, size [6]int64, works, roads []int) []api.Cause {
	var l []api.Cause
	for _, road := range roads {
		for measure := range 6 {
			if limit := limitOf(m, works, road, measure); size[measure] > limit {
				l = append(l, api.Cause{Road: road, Measure: measure, Limit: limit, Need: size[measure]})
			}
		}
	}
	return l
}

func isPossible(m api.Map, size [6]int64, works, roads []int) bool {
	return len(causesOf(m, size, works, roads)) == 0
}

func canBeUsable(m api.Map, size [6]int64, road int) bool {
	return isPossible(m, size, upTo(len(m.Works)), []int{road})
}

// setsOf returns all sets of n numbers, in lexicographic order.
func setsOf(n int) [][]int {
	var l [][]int
	for bits := range 1 << n {
		var one []int
		for i := range n {
			if bits>>i%2 == 1 {
				one = append(one, i)
			}
		}
		l = append(l, one)
	}
	slices.SortFunc(l, slices.Compare[[]int])
	return l
}

// routesOf returns all routes from a place to another one, in lexicographic order.
func routesOf(m api.Map, from, to int) [][]int {
	var l [][]int
	var walk func(visited, roads []int)
	walk = func(visited, roads []int) {
		place := visited[len(visited)-1]
		if place == to {
			l = append(l, slices.Clone(roads))
			return
		}
		for i, r := range m.Roads {
			if r.From == place && !slices.Contains(visited, r.To) {
				walk(append(slices.Clone(visited), r.To), append(slices.Clone(roads), i))
			}
		}
	}
	walk([]int{from}, nil)
	slices.SortFunc(l, slices.Compare[[]int])
	return l
}

func priceOf(m api.Map, works []int) int64 {
	var sum int64
	for _, w := range works {
		sum += m.Works[w].Cost
	}
	return sum
}

func worksOf(m api.Map, size [6]int64, roads []int) ([]int, int64, api.Errno) {
	var best []int
	cost, e := int64(0), api.ErrPlan
	for _, works := range setsOf(len(m.Works)) {
		if isPossible(m, size, works, roads) && (e != api.OK || priceOf(m, works) < cost) {
			best, cost, e = works, priceOf(m, works), api.OK
		}
	}
	return best, cost, e
}

func routeOf(m api.Map, works, roads []int) api.Route {
	route := api.Route{Roads: roads, Works: works, Cost: priceOf(m, works)}
	for _, i := range roads {
		route.Cost += m.Roads[i].Cost
		route.Minutes += m.Roads[i].Minutes
	}
	return route
}

// possibleOf returns all routes with the sets of works with which they are possible: by the works, and then by the roads.
func possibleOf(m api.Map, size [6]int64, from, to int) []api.Route {
	var l []api.Route
	routes := routesOf(m, from, to)
	for _, works := range setsOf(len(m.Works)) {
		for _, roads := range routes {
			if isPossible(m, size, works, roads) {
				l = append(l, routeOf(m, works, roads))
			}
		}
	}
	return l
}

func cheapestOf(m api.Map, size [6]int64, from, to int) (api.Route, api.Errno) {
	l := possibleOf(m, size, from, to)
	if len(l) == 0 {
		return api.Route{}, api.ErrPlan
	}
	best := l[0]
	for _, route := range l {
		if route.Cost < best.Cost {
			best = route
		}
	}
	return best, api.OK
}

// helpsOf reports whether a work helps a load, if a road and a measure are one.
func helpsOf(m api.Map, size [6]int64, work, road, measure int) bool {
	w := m.Works[work]
	return canBeUsable(m, size, road) && size[measure] > m.Roads[road].Limit[measure] &&
		slices.Contains(w.Roads, road) && w.Measure == measure && w.Limit >= size[measure]
}

func sharesOf(m api.Map, size [6]int64) []api.Share {
	var l []api.Share
	for work := range m.Works {
		first := len(l)
		for road := range m.Roads {
			for measure := range 6 {
				if helpsOf(m, size, work, road, measure) {
					l = append(l, api.Share{Work: work, Road: road, Measure: measure})
				}
			}
		}
		for i := first; i < len(l); i++ {
			l[i].Part = m.Works[work].Cost / int64(len(l)-first)
		}
	}
	return l
}

// reducedOf returns the greatest number that the definition of proofs allows for a road.
func reducedOf(m api.Map, size [6]int64, shares []api.Share, road int) int64 {
	cost := m.Roads[road].Cost
	for measure := range 6 {
		var parts []int64
		for work := range m.Works {
			if !helpsOf(m, size, work, road, measure) {
				continue
			}
			part := int64(0)
			for _, s := range shares {
				if s.Work == work && s.Road == road && s.Measure == measure {
					part = s.Part
				}
			}
			parts = append(parts, part)
		}
		if len(parts) > 0 {
			cost += slices.Min(parts)
		}
	}
	return cost
}

// evenOf returns the even proof, if there is a route.
func evenOf(m api.Map, size [6]int64, from, to int) (api.Bound, api.Errno) {
	b := api.Bound{Shares: sharesOf(m, size)}
	least := make([]int64, m.Places)
	for place := range least {
		least[place] = -1
		for _, roads := range routesOf(m, from, place) {
			sum := int64(0)
			for _, i := range roads {
				sum += reducedOf(m, size, b.Shares, i)
			}
			if isPossible(m, size, upTo(len(m.Works)), roads) && (least[place] < 0 || sum < least[place]) {
				least[place] = sum
			}
		}
	}
	if least[to] < 0 {
		return api.Bound{}, api.ErrPlan
	}
	for _, n := range least {
		if n < 0 || n > least[to] {
			n = least[to]
		}
		b.Places = append(b.Places, n)
	}
	return b, api.OK
}

// areSharesOf reports whether the shares of a proof are right.
func areSharesOf(m api.Map, size [6]int64, shares []api.Share) bool {
	sums := make([]*big.Int, len(m.Works))
	for i, s := range shares {
		for _, other := range shares[:i] {
			if s.Work == other.Work && s.Road == other.Road && s.Measure == other.Measure {
				return false
			}
		}
		if s.Work < 0 || s.Work >= len(m.Works) || s.Road < 0 || s.Road >= len(m.Roads) || s.Measure < 0 || s.Measure > 5 {
			return false
		}
		if s.Part < 0 || !helpsOf(m, size, s.Work, s.Road, s.Measure) {
			return false
		}
		if sums[s.Work] == nil {
			sums[s.Work] = new(big.Int)
		}
		sums[s.Work].Add(sums[s.Work], big.NewInt(s.Part))
	}
	for i, sum := range sums {
		if sum != nil && sum.Cmp(big.NewInt(m.Works[i].Cost)) > 0 {
			return false
		}
	}
	return true
}

func checkBoundOf(m api.Map, size [6]int64, from, to int, b api.Bound) (int64, api.Errno) {
	if len(b.Places) != m.Places {
		return 0, api.ErrEqual
	}
	if !areSharesOf(m, size, b.Shares) {
		return 0, api.ErrSum
	}
	for _, n := range b.Places {
		if n < -1<<45 || n > 1<<45 {
			return 0, api.ErrSum
		}
	}
	for i, r := range m.Roads {
		if canBeUsable(m, size, i) && b.Places[r.To]-b.Places[r.From] > reducedOf(m, size, b.Shares, i) {
			return 0, api.ErrSum
		}
	}
	return b.Places[to] - b.Places[from], api.OK
}

func reachOf(m api.Map, size [6]int64, works []int, from int) []int {
	var l []int
	for place := range m.Places {
		if slices.ContainsFunc(routesOf(m, from, place), func(roads []int) bool { return isPossible(m, size, works, roads) }) {
			l = append(l, place)
		}
	}
	return l
}

func checkCutOf(m api.Map, size [6]int64, from, to int, places []int) api.Errno {
	if !slices.Contains(places, from) || slices.Contains(places, to) {
		return api.ErrSum
	}
	for i, r := range m.Roads {
		if canBeUsable(m, size, i) && slices.Contains(places, r.From) && !slices.Contains(places, r.To) {
			return api.ErrSum
		}
	}
	return api.OK
}

// leaveOf returns when a road is left, by waiting minute by minute.
func leaveOf(r api.Road, t int64) int64 {
	for t%1440 < r.Open || t%1440 > r.Close-r.Minutes {
		t++
	}
	return t + r.Minutes
}

func arriveOf(m api.Map, roads []int, start int64) int64 {
	for _, i := range roads {
		start = leaveOf(m.Roads[i], start)
	}
	return start
}

func soonestOf(m api.Map, size [6]int64, works []int, from, to int, start int64) ([]int, int64, api.Errno) {
	var best []int
	at, e := int64(0), api.ErrPlan
	for _, roads := range routesOf(m, from, to) {
		if !isPossible(m, size, works, roads) {
			continue
		}
		if n := arriveOf(m, roads, start); e != api.OK || n < at {
			best, at, e = roads, n, api.OK
		}
	}
	return best, at, e
}

func labelsOf(m api.Map, size [6]int64, works []int, from int, start int64) []int64 {
	var l []int64
	for place := range m.Places {
		_, at, e := soonestOf(m, size, works, from, place, start)
		if e != api.OK {
			at = -1
		}
		l = append(l, at)
	}
	return l
}

func checkLabelsOf(m api.Map, size [6]int64, works []int, from int, start int64, labels []int64) api.Errno {
	if len(labels) != m.Places {
		return api.ErrEqual
	}
	for _, n := range labels {
		if n < -1 || n > 1<<41 {
			return api.ErrRange
		}
	}
	if labels[from] > start || labels[from] < 0 {
		return api.ErrSum
	}
	for i, r := range m.Roads {
		if labels[r.From] == -1 || !isPossible(m, size, works, []int{i}) {
			continue
		}
		if labels[r.To] == -1 || labels[r.To] > leaveOf(r, labels[r.From]) {
			return api.ErrSum
		}
	}
	return api.OK
}
