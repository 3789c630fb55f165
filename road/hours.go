package road

import (
	"cmp"
	"slices"

	"gooseneck/api"
)

const (
	// maxLabel bounds labels.
	maxLabel = 2 * api.MaxTime

	// noLabel is the label of a place that is not reached.
	noLabel = -1
)

// Arrive returns when the last one of roads is left that are used one after another. (P7.7)
func Arrive(m api.Map, roads []int, start int64) (int64, api.Errno) {
	if e := cmp.Or(Check(m), checkRoads(m, roads), checkStart(start)); e != api.OK {
		return 0, e
	}
	for k, i := range roads {
		if k > 0 && m.Roads[i].From != m.Roads[roads[k-1]].To {
			return 0, api.ErrSum
		}
		start = leave(m.Roads[i], start)
	}
	return start, api.OK
}

// Soonest returns the route that arrives soonest, and when. (P7.8)
func Soonest(m api.Map, size [6]int64, works []int, from, to int, start int64) ([]int, int64, api.Errno) {
	if e := cmp.Or(Check(m), CheckSize(size), checkWorks(m, works), checkPlaces(m, from, to), checkStart(start)); e != api.OK {
		return nil, 0, e
	}
	s := surveyOf(m, size)
	hours := net{s, setOf(works), s.leave}
	at := hours.numbers(from, start, 0)[to]
	if at == never {
		return nil, 0, api.ErrPlan
	}
	return hours.first(from, to, start), at, api.OK
}

// Labels returns the earliest times of all places. (P7.8)
func Labels(m api.Map, size [6]int64, works []int, from int, start int64) ([]int64, api.Errno) {
	if e := cmp.Or(Check(m), CheckSize(size), checkWorks(m, works), checkPlaces(m, from), checkStart(start)); e != api.OK {
		return nil, e
	}
	s := surveyOf(m, size)
	labels := net{s, setOf(works), s.leave}.numbers(from, start, 0)
	for i, t := range labels {
		if t == never {
			labels[i] = noLabel
		}
	}
	return labels, api.OK
}

// CheckLabels reports whether labels are right. (P7.8)
func CheckLabels(m api.Map, size [6]int64, works []int, from int, start int64, labels []int64) api.Errno {
	if e := cmp.Or(Check(m), CheckSize(size), checkWorks(m, works), checkPlaces(m, from), checkStart(start)); e != api.OK {
		return e
	}
	if len(labels) != m.Places {
		return api.ErrEqual
	}
	if slices.ContainsFunc(labels, func(t int64) bool { return !isWithin(t, noLabel, maxLabel) }) {
		return api.ErrRange
	}
	if !isWithin(labels[from], 0, start) || !surveyOf(m, size).areSoon(setOf(works), labels) {
		return api.ErrSum
	}
	return api.OK
}

// areSoon reports whether no usable road leads from a label to a place with none, or with one that is later than that.
func (s survey) areSoon(works set, labels []int64) bool {
	for place, t := range labels {
		if t == noLabel {
			continue
		}
		for road := range s.usable(works, place) {
			if to := labels[s.Roads[road].To]; to == noLabel || to > s.leave(road, t) {
				return false
			}
		}
	}
	return true
}

func (s survey) leave(road int, t int64) int64 { return leave(s.Roads[road], t) }

// leave returns when a road is left that is used from a time on.
func leave(r api.Road, t int64) int64 {
	minute := t % api.Day
	switch {
	case minute < r.Open:
		t += r.Open - minute
	case minute > r.Close-r.Minutes:
		t += api.Day - minute + r.Open
	}
	return t + r.Minutes
}
