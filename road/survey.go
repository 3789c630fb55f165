package road

import (
	"cmp"
	"iter"
	"slices"

	"gooseneck/api"
)

// survey is a map as it is for a size.
type survey struct {
	api.Map
	needs [][]need // of each road
	out   [][]int  // the roads from each place, increasing
}

// need is a measure for which a road does not suffice without works, and the works with any of which it does.
type need struct {
	measure int
	helpers set
}

func (n need) isMet(works set) bool { return n.helpers&works != 0 }

// Causes returns all causes that block roads. (P7.2)
func Causes(m api.Map, size [6]int64, works, roads []int) ([]api.Cause, api.Errno) {
	if e := cmp.Or(Check(m), CheckSize(size), checkWorks(m, works), checkRoads(m, roads)); e != api.OK {
		return nil, e
	}
	var causes []api.Cause
	for _, road := range roads {
		for measure, n := range size {
			if limit := limitWith(m, works, road, measure); n > limit {
				causes = append(causes, api.Cause{Road: road, Measure: measure, Limit: limit, Need: n})
			}
		}
	}
	return causes, api.OK
}

// limitWith returns the limit of a road with works.
func limitWith(m api.Map, works []int, road, measure int) int64 {
	limit := m.Roads[road].Limit[measure]
	for _, i := range works {
		if w := m.Works[i]; serves(w, road, measure) {
			limit = max(limit, w.Limit)
		}
	}
	return limit
}

func serves(w api.Work, road, measure int) bool {
	return w.Measure == measure && slices.Contains(w.Roads, road)
}

func surveyOf(m api.Map, size [6]int64) survey {
	s := survey{Map: m, needs: make([][]need, len(m.Roads)), out: make([][]int, m.Places)}
	for i, r := range m.Roads {
		s.out[r.From] = append(s.out[r.From], i)
		for measure, n := range size {
			if n > r.Limit[measure] {
				s.needs[i] = append(s.needs[i], need{measure, helpers(m, i, measure, n)})
			}
		}
	}
	return s
}

// helpers returns the works with which the limit of a road is at least n.
func helpers(m api.Map, road, measure int, n int64) set {
	var all set
	for i, w := range m.Works {
		if serves(w, road, measure) && w.Limit >= n {
			all |= one(i)
		}
	}
	return all
}

// allWorks are all works of the map.
func (s survey) allWorks() set { return one(len(s.Works)) - 1 }

// usable yields the roads from a place that are usable with works.
func (s survey) usable(works set, place int) iter.Seq[int] {
	return func(yield func(int) bool) {
	roads:
		for _, road := range s.out[place] {
			for _, n := range s.needs[road] {
				if !n.isMet(works) {
					continue roads
				}
			}
			if !yield(road) {
				return
			}
		}
	}
}

// price returns what works cost together.
func (s survey) price(works set) int64 {
	var sum int64
	for i := range works.all() {
		sum += s.Works[i].Cost
	}
	return sum
}
