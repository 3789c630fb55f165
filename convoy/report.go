package convoy

import (
	"gooseneck/api"
	"gooseneck/words"
)

// Report takes a report. (P10.2)
func (c *Convoy) Report(r api.Report) (found []api.Deviation, e api.Errno) {
	if !c.isValid() {
		return nil, api.ErrNil
	}
	defer func() {
		if why, is := recover().(api.Errno); is {
			found, e = nil, why
		}
	}()
	refuse(!isReport(r), api.ErrArg)
	refuse(r.At < c.time, api.ErrOld)
	refuse(c.reports == api.MaxReports, api.ErrFull)
	does := [...]func(r api.Report) []api.Deviation{
		api.ReportBegin:   c.begin,
		api.ReportEnd:     c.end,
		api.ReportHold:    c.hold,
		api.ReportThing:   c.count,
		api.ReportClose:   c.close,
		api.ReportNothing: c.pass,
	}
	found = does[r.Kind](r)
	c.time = r.At
	c.reports++
	c.deviations = append(c.deviations, found...)
	return copyDeviations(found), api.OK
}

// refuse ends the handling of a report with an error, if something is wrong. All that can be wrong with a report is looked
// at before it changes anything.
func refuse(isWrong bool, e api.Errno) {
	if isWrong {
		panic(e)
	}
}

func isReport(r api.Report) bool {
	if !isWithin(r.At, 0, api.MaxTime) {
		return false
	}
	switch r.Kind {
	case api.ReportHold:
		return isWithin(r.N, 1, api.MaxHold)
	case api.ReportThing:
		return words.IsName(r.Name) && isWithin(r.N, 0, maxThings)
	case api.ReportClose:
		return words.IsName(r.Name) && 0 <= r.From && r.From < r.To && r.To <= api.MaxTime
	}
	return isWithin(r.Kind, api.ReportBegin, api.ReportNothing)
}

// begin begins the next passage.
func (c *Convoy) begin(r api.Report) []api.Deviation {
	refuse(c.isMoving || c.isDone(), api.ErrState)
	c.isMoving, c.began, c.held = true, r.At, 0
	found := c.shift(r.At, c.plan[c.next].Start, api.DeviateEarly, api.DeviateLate)
	if c.isClosed(c.next, r.At) {
		found = append(found, c.deviation(api.DeviateClosed, 0))
	}
	return append(found, c.breach(c.broken(c.next, api.Crossing{Start: r.At, Things: c.things}))...)
}

// end ends the passage in which the convoy is.
func (c *Convoy) end(r api.Report) []api.Deviation {
	refuse(!c.isMoving || r.At == c.began, api.ErrState)
	found := c.shift(r.At-c.began, c.minutes(c.next)+c.held, api.DeviateFast, api.DeviateSlow)
	found = append(found, c.breach(c.forbidding(c.next, c.began, r.At))...)
	c.isMoving, c.ready = false, r.At
	c.next++
	return found
}

// hold takes a breakdown.
func (c *Convoy) hold(r api.Report) []api.Deviation {
	if c.isMoving {
		c.held += r.N
	} else {
		c.ready = max(c.ready, r.At+r.N)
	}
	return nil
}

// count takes how many there are of a thing.
func (c *Convoy) count(r api.Report) []api.Deviation {
	refuse(indexOf(c.things, r.Name) < 0 && len(c.things) == api.MaxCounts, api.ErrFull)
	c.tell(r.Name, r.N)
	return nil
}

// close takes a closure.
func (c *Convoy) close(r api.Report) []api.Deviation {
	refuse(len(c.closures) == api.MaxClosures, api.ErrFull)
	c.closures = append(c.closures, closure{r.Name, r.From, r.To})
	return nil
}

// pass takes a report of nothing.
func (c *Convoy) pass(api.Report) []api.Deviation { return nil }

// deviation returns a deviation of the report that is taken.
func (c *Convoy) deviation(kind int, minutes int64, conditions ...int) api.Deviation {
	return api.Deviation{Report: c.reports, Kind: kind, Passage: c.next, Minutes: minutes, Conditions: conditions}
}

// shift returns the deviation of a number from the one that was planned: of a kind if it is less, of another one if it is
// greater.
func (c *Convoy) shift(is, planned int64, less, greater int) []api.Deviation {
	switch {
	case is < planned:
		return []api.Deviation{c.deviation(less, planned-is)}
	case is > planned:
		return []api.Deviation{c.deviation(greater, is-planned)}
	}
	return nil
}

// breach returns the deviation of conditions that are broken, none if there are none.
func (c *Convoy) breach(conditions []int) []api.Deviation {
	if len(conditions) == 0 {
		return nil
	}
	return []api.Deviation{c.deviation(api.DeviateRule, 0, conditions...)}
}
