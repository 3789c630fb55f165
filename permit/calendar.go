package permit

import (
	"cmp"
	"iter"
	"slices"

	"gooseneck/api"
)

const (
	weekDays = 7

	// maxSpan is how many minutes Windows looks at.
	maxSpan = 14400
)

// Allowed reports whether a passage is allowed at a minute. (P8.4)
func Allowed(l []api.Authority, t api.Trip, passage int, at int64) (bool, api.Errno) {
	own, e := look(l, t, passage)
	if e := cmp.Or(e, checkMinutes(at)); e != api.OK {
		return false, e
	}
	return own.calendar().allows(at), api.OK
}

// Next returns the next start of a passage. (P8.4)
func Next(l []api.Authority, t api.Trip, passage int, from int64) (int64, api.Errno) {
	own, e := look(l, t, passage)
	if e := cmp.Or(e, checkMinutes(from)); e != api.OK {
		return 0, e
	}
	minutes := t.Passages[passage].Minutes
	end := (from/api.DayMinutes + api.SearchDays) * api.DayMinutes
	// Who begins in the last minute ahead of the end goes on behind it.
	for w := range own.calendar().windows(from, end+minutes-1) {
		if w.To-w.From >= minutes {
			return w.From, api.OK
		}
	}
	return 0, api.ErrLate
}

// Windows returns when a passage is allowed. (P8.5)
func Windows(l []api.Authority, t api.Trip, passage int, from, to int64) ([]api.Window, api.Errno) {
	own, e := look(l, t, passage)
	if e := cmp.Or(e, checkMinutes(from, to)); e != api.OK {
		return nil, e
	}
	if from >= to || to-from > maxSpan {
		return nil, api.ErrArg
	}
	var longest []api.Window
	for w := range own.calendar().windows(from, to) {
		if w.To-w.From < t.Passages[passage].Minutes {
			continue
		}
		if last := len(longest) - 1; last >= 0 && longest[last].From == w.From {
			longest[last] = w
		} else {
			longest = append(longest, w)
		}
	}
	if len(longest) > api.MaxWindows {
		return nil, api.ErrMany
	}
	return longest, api.OK
}

// calendar is when conditions allow a passage: in which minutes of the day, and on which days of the week and of the year;
// never if one of them forbids it.
type calendar struct {
	hours, days, season []bool
	isForbidden         bool
}

func (l conditions) calendar() calendar {
	return calendar{l.hours(), l.days(), l.season(), l.forbid()}
}

func (l conditions) hours() []bool {
	return l.common(api.DayMinutes, func(r api.Rule, minute int64) bool { return isBetween(minute, r.Hours) })
}

func (l conditions) days() []bool {
	return l.common(weekDays, func(r api.Rule, day int64) bool { return r.Days>>day&1 == 1 })
}

func (l conditions) season() []bool {
	return l.common(api.YearDays, func(r api.Rule, day int64) bool { return isBetween(day, r.Season) })
}

func (l conditions) forbid() bool {
	return slices.ContainsFunc(l, func(c condition) bool { return c.rule.Forbid })
}

// common returns which of the first n numbers the rules of all conditions have.
func (l conditions) common(n int64, has func(r api.Rule, i int64) bool) []bool {
	var all []bool
	for i := range n {
		all = append(all, areAll(l, func(c condition) bool { return has(c.rule, i) }))
	}
	return all
}

func isBetween(n int64, ends [2]int64) bool {
	if ends[0] < ends[1] {
		return ends[0] <= n && n < ends[1]
	}
	return ends[0] <= n || n < ends[1]
}

// allowsOn reports whether there may be a minute of a day that is allowed.
func (c calendar) allowsOn(day int64) bool {
	return !c.isForbidden && c.days[day%weekDays] && c.season[day%api.YearDays]
}

func (c calendar) allows(t int64) bool {
	return c.hours[t%api.DayMinutes] && c.allowsOn(t/api.DayMinutes)
}

// isOpen reports whether all minutes from one on are allowed that are before another one.
func (c calendar) isOpen(from, to int64) bool {
	for t := from; t < to; t++ {
		if !c.allows(t) {
			return false
		}
	}
	return true
}

// minutes yields the minutes from one on that are allowed, and are before another one.
func (c calendar) minutes(from, to int64) iter.Seq[int64] {
	return func(yield func(int64) bool) {
		for t := from; t < to; t++ {
			if day := t / api.DayMinutes; !c.allowsOn(day) {
				t = (day+1)*api.DayMinutes - 1
				continue
			}
			if c.hours[t%api.DayMinutes] && !yield(t) {
				return
			}
		}
	}
}

// windows yields, for each minute from one on that is allowed, and is before another one, the longest window that ends
// with it.
func (c calendar) windows(from, to int64) iter.Seq[api.Window] {
	return func(yield func(api.Window) bool) {
		w := api.Window{From: from, To: from}
		for t := range c.minutes(from, to) {
			if t > w.To {
				w.From = t
			}
			w.To = t + 1
			if !yield(w) {
				return
			}
		}
	}
}
