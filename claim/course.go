package claim

import (
	"math"
	"slices"

	"gooseneck/api"
)

// course is what a sound log tells of its minutes.
type course struct {
	start  int64 // the time of the minute 0
	steps  int
	place  span
	values [4]span
}

// span tells the span of something at a minute.
type span func(minute int) api.Band

func (s span) least(minute int) int64 { return s(minute).Lo }

func (s span) most(minute int) int64 { return s(minute).Hi }

// CheckLog reports whether a log is valid and sound. (P11.1)
func CheckLog(l api.Log) api.Errno {
	_, e := courseOf(l)
	return e
}

// Minutes returns how many minutes a log has. (P11.1)
func Minutes(l api.Log) (int, api.Errno) {
	x, e := courseOf(l)
	if e != api.OK {
		return 0, e
	}
	return x.minutes(), api.OK
}

// Spans returns the spans at a minute. (P11.2)
func Spans(l api.Log, minute int) (api.Band, [4]api.Band, api.Errno) {
	x, e := courseOf(l)
	if e != api.OK {
		return api.Band{}, [4]api.Band{}, e
	}
	if !isWithin(minute, 0, x.steps) {
		return api.Band{}, [4]api.Band{}, api.ErrRange
	}
	var values [4]api.Band
	for kind, value := range x.values {
		values[kind] = value(minute)
	}
	return x.place(minute), values, api.OK
}

// courseOf returns the course of a log, or the error of one that is not valid, or not sound.
func courseOf(l api.Log) (course, api.Errno) {
	if len(l.Readings) > api.MaxReadings {
		return course{}, api.ErrMany
	}
	if !isLog(l) {
		return course{}, api.ErrArg
	}
	first, last := l.Readings[0].At, l.Readings[len(l.Readings)-1].At
	x := course{start: first, steps: int(last - first), place: spanOf(l.Readings, placeBy)}
	for kind, drift := range l.Drift {
		x.values[kind] = spanOf(l.Readings, valueBy(kind, drift))
	}
	if !x.isSound(l.Readings) {
		return course{}, api.ErrSum
	}
	return x, api.OK
}

// isLog reports whether a log that has not too many readings is valid.
func isLog(l api.Log) bool {
	for i, r := range l.Readings {
		if !isTime(r.At) || i > 0 && r.At <= l.Readings[i-1].At ||
			!isBand(r.Place) || !areAll(r.Values[:], isBand) {
			return false
		}
	}
	isDrift := func(n int64) bool { return isWithin(n, 0, api.MaxDrift) }
	return len(l.Readings) >= 2 && l.Readings[len(l.Readings)-1].At-l.Readings[0].At <= api.MaxTicks &&
		areAll(l.Drift[:], isDrift)
}

func isBand(b api.Band) bool { return b.Lo <= b.Hi && isMeasure(b.Lo) && isMeasure(b.Hi) }

func (x course) minutes() int { return x.steps + 1 }

// isSound reports whether no span is empty. If one is, two readings contradict each other: then the spans at their own minutes
// are empty, too, and no other ones have to be looked at.
func (x course) isSound(readings []api.Reading) bool {
	return areAll(readings, func(r api.Reading) bool {
		minute := int(r.At - x.start)
		isEmpty := func(s span) bool { return s.least(minute) > s.most(minute) }
		return !isEmpty(x.place) && !slices.ContainsFunc(x.values[:], isEmpty)
	})
}

// spanOf returns what tells the span of that of which by returns what a single reading says of it at a time.
func spanOf(readings []api.Reading, by func(r *api.Reading, at int64) api.Band) span {
	return func(minute int) api.Band {
		at := readings[0].At + int64(minute)
		b := meet()
		for i := range readings {
			b = meet(b, by(&readings[i], at))
		}
		return b
	}
}

// placeBy returns where the convoy is at a time, by a reading: it only goes forward.
func placeBy(r *api.Reading, at int64) api.Band {
	b := meet()
	if r.At <= at {
		b.Lo = r.Place.Lo
	}
	if r.At >= at {
		b.Hi = r.Place.Hi
	}
	return b
}

// valueBy returns what tells what a value is at a time, by a reading.
func valueBy(kind int, drift int64) func(r *api.Reading, at int64) api.Band {
	return func(r *api.Reading, at int64) api.Band {
		change := drift * max(at-r.At, r.At-at)
		return api.Band{Lo: r.Values[kind].Lo - change, Hi: r.Values[kind].Hi + change}
	}
}

// meet returns what bands have in common; of none these are all numbers.
func meet(bands ...api.Band) api.Band {
	all := api.Band{Lo: math.MinInt64, Hi: math.MaxInt64}
	for _, b := range bands {
		all.Lo, all.Hi = max(all.Lo, b.Lo), min(all.Hi, b.Hi)
	}
	return all
}

func areAll[T any](l []T, is func(T) bool) bool {
	return !slices.ContainsFunc(l, func(x T) bool { return !is(x) })
}
