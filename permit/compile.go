package permit

import (
	"slices"

	"gooseneck/api"
)

// Compile returns the permit of a trip. (P8.3)
func Compile(l []api.Authority, t api.Trip) (api.Permit, api.Errno) {
	if e := checkBoth(l, t); e != api.OK {
		return api.Permit{}, e
	}
	permit := api.Permit{Conditions: compile(l, t), Notice: notice(l, t)}
	for _, a := range named(l, t) {
		permit.Fee += a.Fee
	}
	for _, c := range permit.Conditions {
		permit.Fee += l[c.Authority].Rules[c.Rule].Cost
	}
	return permit, api.OK
}

// compile returns the conditions of a trip.
func compile(l []api.Authority, t api.Trip) []api.Condition {
	var conditions []api.Condition
	for i, p := range t.Passages {
		authority := indexOf(l, p.Authority)
		for k, r := range l[authority].Rules {
			if isFor(r, p, t.Sizes) {
				conditions = append(conditions, api.Condition{Passage: i, Authority: authority, Rule: k})
			}
		}
	}
	return conditions
}

// isFor reports whether a rule of the authority of a passage is for this passage.
func isFor(r api.Rule, p api.Passage, sizes [6]int64) bool {
	if len(r.Roads) > 0 && !slices.Contains(r.Roads, p.Road) {
		return false
	}
	return areAll(r.Whens, func(w api.When) bool { return sizes[w.Size] >= w.Least })
}

// named returns the authorities that passages of a trip name.
func named(l []api.Authority, t api.Trip) []api.Authority {
	var some []api.Authority
	for _, a := range l {
		if slices.ContainsFunc(t.Passages, func(p api.Passage) bool { return p.Authority == a.Name }) {
			some = append(some, a)
		}
	}
	return some
}

// notice returns the notice that has to be given for a trip.
func notice(l []api.Authority, t api.Trip) int64 {
	var most int64
	for _, a := range named(l, t) {
		most = max(most, a.Notice)
	}
	return most
}

// condition is one for a passage: its number in the permit's list, and its rule.
type condition struct {
	number int
	rule   api.Rule
}

type conditions []condition

func (l conditions) numbers() []int {
	var n []int
	for _, c := range l {
		n = append(n, c.number)
	}
	return n
}

// without returns the conditions but the one at an index.
func (l conditions) without(i int) conditions { return slices.Concat(l[:i], l[i+1:]) }

// look returns the conditions of a passage, or the errors with which all functions of a passage begin.
func look(l []api.Authority, t api.Trip, passage int) (conditions, api.Errno) {
	if e := checkBoth(l, t); e != api.OK {
		return nil, e
	}
	if !isWithin(passage, 0, len(t.Passages)-1) {
		return nil, api.ErrRange
	}
	return conditionsOf(l, t, passage), api.OK
}

func conditionsOf(l []api.Authority, t api.Trip, passage int) conditions {
	var some conditions
	for i, c := range compile(l, t) {
		if c.Passage == passage {
			some = append(some, condition{i, l[c.Authority].Rules[c.Rule]})
		}
	}
	return some
}
