package permit

import (
	"cmp"

	"gooseneck/api"
	"gooseneck/words"
)

// Broken returns the conditions that a crossing breaks. (P8.6)
func Broken(l []api.Authority, t api.Trip, passage int, c api.Crossing) ([]int, api.Errno) {
	own, e := look(l, t, passage)
	if e := cmp.Or(e, checkCrossing(c)); e != api.OK {
		return nil, e
	}
	return own.broken(c, t.Passages[passage].Minutes).numbers(), api.OK
}

// Trips reports whether crossings break nothing. (P8.7)
func Trips(l []api.Authority, t api.Trip, asked int64, c []api.Crossing) (int, api.Errno) {
	if e := cmp.Or(checkBoth(l, t), checkMinutes(asked)); e != api.OK {
		return 0, e
	}
	if len(c) != len(t.Passages) {
		return 0, api.ErrEqual
	}
	free := asked + notice(l, t)
	for i, p := range t.Passages {
		if e := checkCrossing(c[i]); e != api.OK {
			return i, e
		}
		if c[i].Start < free {
			return i, api.ErrLate
		}
		if len(conditionsOf(l, t, i).broken(c[i], p.Minutes)) > 0 {
			return i, api.ErrRule
		}
		// This is not before asked and the notice, either.
		free = c[i].Start + p.Minutes
	}
	return len(c), api.OK
}

// checkCrossing returns the errors of a crossing.
func checkCrossing(c api.Crossing) api.Errno {
	if e := checkMinutes(c.Start); e != api.OK {
		return e
	}
	if len(c.Things) > api.MaxCounts {
		return api.ErrMany
	}
	if !areAll(c.Things, isSupply) {
		return api.ErrArg
	}
	return api.OK
}

func isSupply(c api.Count) bool { return words.IsName(c.Thing) && isWithin(c.Least, 0, maxThings) }

// broken returns the conditions that a crossing of some minutes breaks.
func (l conditions) broken(c api.Crossing, minutes int64) conditions {
	var some conditions
	for _, own := range l {
		isInTime := conditions{own}.calendar().isOpen(c.Start, c.Start+minutes)
		if !isInTime || !areAll(own.rule.Counts, func(n api.Count) bool { return isWithin(supply(c, n.Thing), n.Least, n.Most) }) {
			some = append(some, own)
		}
	}
	return some
}

// supply returns how many of a thing a crossing has.
func supply(c api.Crossing, thing string) int64 {
	for _, n := range c.Things {
		if n.Thing == thing {
			return n.Least
		}
	}
	return 0
}
