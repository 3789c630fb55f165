package road

import (
	"cmp"

	"gooseneck/api"
)

// Reach returns the places that can be reached from a place. (P7.6)
func Reach(m api.Map, size [6]int64, works []int, from int) ([]int, api.Errno) {
	if e := cmp.Or(Check(m), CheckSize(size), checkWorks(m, works), checkPlaces(m, from)); e != api.OK {
		return nil, e
	}
	s := surveyOf(m, size)
	var places []int
	for place, cost := range (net{s, setOf(works), s.pay}).numbers(from, 0, 0) {
		if cost != never {
			places = append(places, place)
		}
	}
	return places, api.OK
}

// CheckCut reports whether places prove that there is no route. (P7.6)
func CheckCut(m api.Map, size [6]int64, from, to int, places []int) api.Errno {
	if e := cmp.Or(Check(m), CheckSize(size), checkPlaces(m, from, to)); e != api.OK {
		return e
	}
	if !isSet(places, m.Places) {
		return api.ErrRange
	}
	s, inside := surveyOf(m, size), setOf(places)
	if !inside.has(from) || inside.has(to) {
		return api.ErrSum
	}
	for _, place := range places {
		for road := range s.usable(s.allWorks(), place) {
			if !inside.has(m.Roads[road].To) {
				return api.ErrSum
			}
		}
	}
	return api.OK
}
