package convoy

import (
	"slices"

	"gooseneck/api"
	"gooseneck/permit"
)

// closure is a road that is closed from a time to another one.
type closure struct {
	road     string
	from, to int64
}

// reopens returns from when on no closure is in the way of a passage that is in the way at a time; this time, if none is.
func (c *Convoy) reopens(passage int, at int64) int64 {
	p := c.trip.Passages[passage]
	from := at
	for _, x := range c.closures {
		if x.road == p.Road && x.from < at+p.Minutes && at < x.to {
			from = max(from, x.to)
		}
	}
	return from
}

// isClosed reports whether a closure is in the way of a passage at a time.
func (c *Convoy) isClosed(passage int, at int64) bool { return c.reopens(passage, at) > at }

// Free returns when a convoy is free. (P10.3)
func (c *Convoy) Free() int64 {
	if !c.isValid() {
		return 0
	}
	return c.free()
}

func (c *Convoy) free() int64 {
	if c.isMoving {
		return max(c.time, c.began+c.minutes(c.next)+c.held)
	}
	return max(c.time, c.ready)
}

// left returns the first passage that is left, and how many are.
func (c *Convoy) left() (first, n int) {
	first = c.next
	if c.isMoving {
		first++
	}
	return first, len(c.plan) - first
}

// Replan returns the earliest plan for what is left. (P10.4)
func (c *Convoy) Replan() (int, []api.Crossing, api.Errno) {
	if !c.isValid() {
		return 0, nil, api.ErrNil
	}
	first, n := c.left()
	free := c.free()
	var plan []api.Crossing
	for i := range n {
		passage := first + i
		if !c.allows(passage, c.things) {
			return passage, nil, api.ErrRule
		}
		start, isThere := c.start(passage, free)
		if !isThere {
			return passage, nil, api.ErrLate
		}
		plan = append(plan, api.Crossing{Start: start, Things: slices.Clone(c.things)})
		free = start + c.minutes(passage)
	}
	return first, plan, api.OK
}

// start returns the least start of a passage from a time on, and whether there is one.
func (c *Convoy) start(passage int, from int64) (int64, bool) {
	end := (from/api.DayMinutes + api.SearchDays) * api.DayMinutes
	for {
		start, e := permit.Next(c.authorities, c.trip, passage, from)
		// Behind a closure the permit looks at later days, too.
		if e != api.OK || start >= end || start > api.MaxTime {
			return 0, false
		}
		// Until then the closures that are in the way remain there, so no start is left out.
		if from = c.reopens(passage, start); from == start {
			return start, true
		}
	}
}

// Adopt takes a plan for what is left. (P10.5)
func (c *Convoy) Adopt(plan []api.Crossing) (int, api.Errno) {
	if !c.isValid() {
		return 0, api.ErrNil
	}
	first, n := c.left()
	if len(plan) != n {
		return 0, api.ErrEqual
	}
	free := c.free()
	for i := range n {
		passage := first + i
		if e := c.check(passage, plan[i], free); e != api.OK {
			return passage, e
		}
		free = plan[i].Start + c.minutes(passage)
	}
	copy(c.plan[first:], copyPlan(plan))
	return first, api.OK
}

// check returns what is wrong with a crossing of a passage that cannot begin before a time.
func (c *Convoy) check(passage int, x api.Crossing, free int64) api.Errno {
	conditions, e := permit.Broken(c.authorities, c.trip, passage, x)
	switch {
	case e != api.OK:
		return e
	case x.Start < free:
		return api.ErrLate
	case c.isClosed(passage, x.Start):
		return api.ErrBlock
	case len(conditions) > 0:
		return api.ErrRule
	}
	return api.OK
}
