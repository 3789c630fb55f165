package schedule

import (
	"cmp"
	"iter"
	"slices"

	"gooseneck/api"
)

// crew is legs that are driven one after another, with how long the crew drives at most, and rests at least.
type crew struct {
	legs              []api.Leg
	most, rest, start int64
}

// shift is starts for the legs of a crew.
type shift struct {
	crew
	starts []int64
}

// CheckCrew reports whether the times of a crew are allowed. (P9.8)
func CheckCrew(legs []api.Leg, most, rest, start int64, starts []int64) (int, api.Errno) {
	c := crew{legs, most, rest, start}
	if e := c.check(); e != api.OK {
		return 0, e
	}
	if len(starts) != len(legs) {
		return 0, api.ErrEqual
	}
	return judge(shift{c, starts}, fault[shift]{shift.misfit, api.ErrRule}, fault[shift]{shift.tired, api.ErrHave})
}

// Crew returns the best times of a crew. (P9.8)
func Crew(legs []api.Leg, most, rest, start int64) ([]int64, api.Errno) {
	c := crew{legs, most, rest, start}
	if e := c.check(); e != api.OK {
		return nil, e
	}
	times := slices.Collect(c.times())
	if len(times) == 0 {
		return nil, api.ErrPlan
	}
	return slices.MinFunc(times, compareTimes), api.OK
}

// check returns the errors of a crew.
func (c crew) check() api.Errno {
	if len(c.legs) > api.MaxLegs || !areAll(c.legs, func(l api.Leg) bool { return len(l.Windows) <= api.MaxWindows }) {
		return api.ErrMany
	}
	isLeg := func(l api.Leg) bool { return isWithin(l.Minutes, 1, c.most) && areWindows(l.Windows) }
	if !isWithin(c.most, 1, maxMinutes) || !isWithin(c.rest, 1, maxMinutes) || !areAll(c.legs, isLeg) {
		return api.ErrArg
	}
	if !isTime(c.start) {
		return api.ErrRange
	}
	return api.OK
}

// misfit returns the number of the first leg that does not fit, or begins too early.
func (s shift) misfit() int {
	free := s.start
	for i, l := range s.legs {
		if s.starts[i] < free || !fits(l.Windows, l.Minutes, s.starts[i]) {
			return i
		}
		free = s.starts[i] + l.Minutes
	}
	return none
}

// tired returns the number of the first leg with which the crew drives too long without a rest.
func (s shift) tired() int {
	free, driven := s.start, int64(0)
	for i, l := range s.legs {
		if s.starts[i]-free >= s.rest {
			driven = 0
		}
		driven += l.Minutes
		if driven > s.most {
			return i
		}
		free = s.starts[i] + l.Minutes
	}
	return none
}

// times yields, for each set of gaps, the earliest times with rests in them, if these rests are enough. The best times are
// among them: they have some rests, and no time with these rests is earlier than the earliest.
func (c crew) times() iter.Seq[[]int64] {
	return func(yield func([]int64) bool) {
		for rests := range 1 << max(0, len(c.legs)-1) {
			if starts, areAllowed := c.earliest(rests); areAllowed && !yield(starts) {
				return
			}
		}
	}
}

// earliest returns the earliest times with a rest after each leg that has a bit, and whether they are allowed by these rests.
func (c crew) earliest(rests int) ([]int64, bool) {
	var starts []int64
	free, driven := c.start, int64(0)
	for i, l := range c.legs {
		start := firstFit(l.Windows, l.Minutes, free)
		free = start + l.Minutes
		driven += l.Minutes
		if start == none || driven > c.most {
			return nil, false
		}
		starts = append(starts, start)
		if rests>>i&1 == 1 {
			free += c.rest
			driven = 0
		}
	}
	return starts, true
}

// compareTimes compares times by their last one, and then by all.
func compareTimes[T cmp.Ordered](a, b []T) int {
	last := max(0, len(a)-1)
	return cmp.Or(slices.Compare(a[last:], b[last:]), slices.Compare(a, b))
}
