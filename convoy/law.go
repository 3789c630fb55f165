package convoy

import (
	"slices"

	"gooseneck/api"
	"gooseneck/permit"
)

// The limits of layer 8 that package api does not name.
const (
	everyDay   = 1<<7 - 1 // the bits of all days of the week
	maxMinutes = 10080    // of a passage
	maxThings  = 1000     // of a kind
)

// law is what a convoy has to keep to: the rules of authorities, for a trip. Both are valid, together.
type law struct {
	authorities []api.Authority
	trip        api.Trip
}

func (l law) copy() law {
	t := l.trip
	t.Passages = slices.Clone(t.Passages)
	return law{edited(l.authorities, copyRule), t}
}

// edited returns authorities with rules that are changed.
func edited(l []api.Authority, change func(r api.Rule) api.Rule) []api.Authority {
	l = slices.Clone(l)
	for i := range l {
		l[i].Rules = slices.Clone(l[i].Rules)
		for k, r := range l[i].Rules {
			l[i].Rules[k] = change(r)
		}
	}
	return l
}

func copyRule(r api.Rule) api.Rule {
	r.Roads, r.Whens, r.Counts = slices.Clone(r.Roads), slices.Clone(r.Whens), slices.Clone(r.Counts)
	return r
}

// withoutCounts returns a rule that only minutes can break.
func withoutCounts(r api.Rule) api.Rule {
	r.Counts = nil
	return r
}

// withoutTimes returns a rule that only numbers of things can break.
func withoutTimes(r api.Rule) api.Rule {
	r.Hours, r.Days, r.Season, r.Forbid = [2]int64{}, everyDay, [2]int64{}, false
	return r
}

// minutes returns how long a passage takes.
func (l law) minutes(passage int) int64 { return l.trip.Passages[passage].Minutes }

// broken returns the conditions that a valid crossing breaks.
func (l law) broken(passage int, c api.Crossing) []int {
	numbers, _ := permit.Broken(l.authorities, l.trip, passage, c)
	return numbers
}

// allows reports whether some things break no condition of a passage by a count.
func (l law) allows(passage int, things []api.Count) bool {
	counted := law{edited(l.authorities, withoutTimes), l.trip}
	return len(counted.broken(passage, api.Crossing{Things: things})) == 0
}

// forbidding returns the conditions of a passage whose rules do not allow one of the minutes from one on that are before
// another one.
func (l law) forbidding(passage int, from, to int64) []int {
	// Within a year come all minutes of the day and all days of the week and of the year, of which rules speak: what is
	// allowed all the year is allowed at all times.
	to = min(to, from+api.YearDays*api.DayMinutes)
	timed := l.copy()
	timed.authorities = edited(l.authorities, withoutCounts)
	var numbers []int
	for ; from < to; from += maxMinutes {
		timed.trip.Passages[passage].Minutes = min(to-from, maxMinutes)
		numbers = append(numbers, timed.broken(passage, api.Crossing{Start: from})...)
	}
	slices.Sort(numbers)
	return slices.Compact(numbers)
}
