package claim

import "gooseneck/api"

// Fits reports whether a history fits a log. (P11.3)
func Fits(l api.Log, h api.History) (bool, api.Errno) {
	x, e := courseOf(l)
	if e != api.OK {
		return false, e
	}
	return x.isWhole(h) && isRead(l.Readings, h) && areStepsPossible(l.Drift, h), api.OK
}

// isWhole reports whether a history has a place and values for each minute.
func (x course) isWhole(h api.History) bool {
	return len(h.Places) == x.minutes() && len(h.Values) == x.minutes()
}

// isRead reports whether a history is within the bands of all readings.
func isRead(readings []api.Reading, h api.History) bool {
	return areAll(readings, func(r api.Reading) bool {
		minute := r.At - readings[0].At
		for kind, b := range r.Values {
			if !isWithin(h.Values[minute][kind], b.Lo, b.Hi) {
				return false
			}
		}
		return isWithin(h.Places[minute], r.Place.Lo, r.Place.Hi)
	})
}

// areStepsPossible reports whether a history only goes forward, and has values that change slowly enough.
func areStepsPossible(drift [4]int64, h api.History) bool {
	for step := range len(h.Places) - 1 {
		if h.Places[step] > h.Places[step+1] {
			return false
		}
		for kind, most := range drift {
			if distance(h.Values[step][kind], h.Values[step+1][kind]) > uint64(most) {
				return false
			}
		}
	}
	return true
}

// distance returns how far apart two numbers are, which may be too far for an int64.
func distance(a, b int64) uint64 { return uint64(max(a, b)) - uint64(min(a, b)) }

// Damages reports whether a history damages. (P11.3)
func Damages(l api.Log, c api.Claim, h api.History) (bool, api.Errno) {
	x, e := judged(l, c)
	if e != api.OK {
		return false, e
	}
	if !x.isWhole(h) {
		return false, api.ErrEqual
	}
	place := func(minute int) int64 { return h.Places[minute] }
	value := func(minute int) int64 { return h.Values[minute][c.Kind] }
	for step := range x.within(c) {
		if damages(c, step, place, value) {
			return true, api.OK
		}
	}
	return false, api.OK
}

// damages reports whether a step within a claim damages, with such places and values.
func damages(c api.Claim, step int, place, value func(minute int) int64) bool {
	isThere := place(step) <= c.To && place(step+1) >= c.From
	return isThere && isAbove(c, step, value)
}

// isAbove reports whether values are above the limit of a claim in a step.
func isAbove(c api.Claim, step int, value func(minute int) int64) bool {
	return max(value(step), value(step+1)) > c.Limit
}

// With returns a history that damages. (P11.6)
func With(l api.Log, c api.Claim) (api.History, api.Errno) {
	return historyOf(l, c, course.with, span.most)
}

// Without returns a history that does not damage. (P11.6)
func Without(l api.Log, c api.Claim) (api.History, api.Errno) {
	return historyOf(l, c, course.without, span.least)
}

// historyOf returns the history with the drive that find returns, and each value at the same end of its spans.
func historyOf(
	l api.Log, c api.Claim, find func(course, api.Claim) (drive, bool), end func(span, int) int64,
) (api.History, api.Errno) {
	x, e := judged(l, c)
	if e != api.OK {
		return api.History{}, e
	}
	d, isFound := find(x, c)
	if !isFound {
		return api.History{}, api.ErrPlan
	}
	return x.history(d.place, end), api.OK
}

// history returns the history with such places, and each value at the same end of its spans.
func (x course) history(place func(minute int) int64, end func(span, int) int64) api.History {
	h := api.History{Places: make([]int64, x.minutes()), Values: make([][4]int64, x.minutes())}
	for minute := range x.minutes() {
		h.Places[minute] = place(minute)
		for kind, value := range x.values {
			h.Values[minute][kind] = end(value, minute)
		}
	}
	return h
}

// drive is the places of a convoy that holds back as much as it can up to a minute, and is ahead as much as it can behind it.
type drive struct {
	places span
	held   int // the minute, -1 if the convoy does not hold back
}

// place returns the place at a minute.
func (d drive) place(minute int) int64 {
	if minute <= d.held {
		return d.places.least(minute)
	}
	return d.places.most(minute)
}

// with returns a drive that damages with the greatest values, and whether there is one. Those fit all together; and in each
// step the drive that holds back until then is at the place if any drive is.
func (x course) with(c api.Claim) (drive, bool) {
	for step := range x.within(c) {
		if d := (drive{x.place, step}); damages(c, step, d.place, x.values[c.Kind].most) {
			return d, true
		}
	}
	return drive{}, false
}

// without returns a drive that does not damage with the least values, and whether there is one. Those fit all together; and
// in the steps that are not forced, they are not above the limit.
func (x course) without(c api.Claim) (drive, bool) { return x.wayPast(c, x.forced(c)) }
