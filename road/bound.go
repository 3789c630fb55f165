package road

import (
	"cmp"

	"gooseneck/api"
)

// maxNumber bounds the amounts of the numbers of a proof.
const maxNumber = 1 << 45

// load is a road that can be made usable, and a measure that blocks it without works.
type load struct{ road, measure int }

// help is a load, and a work that helps it.
type help struct {
	load
	work int
}

// Bound returns the even proof. (P7.5)
func Bound(m api.Map, size [6]int64, from, to int) (api.Bound, api.Errno) {
	if e := cmp.Or(Check(m), CheckSize(size), checkPlaces(m, from, to)); e != api.OK {
		return api.Bound{}, e
	}
	s := surveyOf(m, size)
	shares := s.evenShares()
	parts, _ := s.parts(shares)
	reduced := net{s, s.allWorks(), func(road int, ahead int64) int64 { return ahead + s.reduced(road, parts) }}
	numbers := reduced.numbers(from, 0, 0)
	most := numbers[to]
	if most == never {
		return api.Bound{}, api.ErrPlan
	}
	for i := range numbers {
		numbers[i] = min(numbers[i], most)
	}
	return api.Bound{Shares: shares, Places: numbers}, api.OK
}

// CheckBound returns what a proof proves. (P7.5)
func CheckBound(m api.Map, size [6]int64, from, to int, b api.Bound) (int64, api.Errno) {
	if e := cmp.Or(Check(m), CheckSize(size), checkPlaces(m, from, to)); e != api.OK {
		return 0, e
	}
	if len(b.Places) != m.Places {
		return 0, api.ErrEqual
	}
	s := surveyOf(m, size)
	parts, areRight := s.parts(b.Shares)
	if !areRight || !s.areNumbers(b.Places, parts) {
		return 0, api.ErrSum
	}
	return b.Places[to] - b.Places[from], api.OK
}

// evenShares returns the shares of the even proof.
func (s survey) evenShares() []api.Share {
	loads := s.loads()
	var shares []api.Share
	for i, w := range s.Works {
		var helped []int
		for _, road := range w.Roads {
			if loads[load{road, w.Measure}].has(i) {
				helped = append(helped, road)
			}
		}
		for _, road := range helped {
			shares = append(shares, api.Share{Work: i, Road: road, Measure: w.Measure, Part: w.Cost / int64(len(helped))})
		}
	}
	return shares
}

// loads returns all loads, each with the works that help it.
func (s survey) loads() map[load]set {
	loads := map[load]set{}
	for place := range s.Places {
		for road := range s.usable(s.allWorks(), place) {
			for _, n := range s.needs[road] {
				loads[load{road, n.measure}] = n.helpers
			}
		}
	}
	return loads
}

// parts returns the parts of shares, and whether the shares are right.
func (s survey) parts(shares []api.Share) (map[help]int64, bool) {
	loads, parts := s.loads(), map[help]int64{}
	left := make([]int64, len(s.Works)) // of the costs
	for i, w := range s.Works {
		left[i] = w.Cost
	}
	for _, share := range shares {
		h := help{load{share.Road, share.Measure}, share.Work}
		_, isTwice := parts[h]
		if isTwice || !loads[h.load].has(h.work) || !isWithin(share.Part, 0, left[h.work]) {
			return nil, false
		}
		parts[h] = share.Part
		left[h.work] -= share.Part
	}
	return parts, true
}

// reduced returns the reduced cost of a road that can be made usable.
func (s survey) reduced(road int, parts map[help]int64) int64 {
	cost := s.Roads[road].Cost
	for _, n := range s.needs[road] {
		_, part := least(n.helpers.all(), func(work int) int64 { return parts[help{load{road, n.measure}, work}] })
		cost += part
	}
	return cost
}

// areNumbers reports whether the numbers of the places are right.
func (s survey) areNumbers(numbers []int64, parts map[help]int64) bool {
	for _, n := range numbers {
		if !isWithin(n, -maxNumber, maxNumber) {
			return false
		}
	}
	for place, n := range numbers {
		for road := range s.usable(s.allWorks(), place) {
			if numbers[s.Roads[road].To]-n > s.reduced(road, parts) {
				return false
			}
		}
	}
	return true
}
