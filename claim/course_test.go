package claim_test

import (
	"testing"

	"gooseneck/api"
	"gooseneck/claim"
)

// P11.1: each part of a log is looked at, up to its limits.
func TestCheckLog(t *testing.T) {
	const most, late = 1 << 30, 1 << 40
	all := band(-most, most)
	long := func(n int) []api.Reading {
		var l []api.Reading
		for i := range n {
			l = append(l, read(int64(10*i), all, all, all, all, all))
		}
		return l
	}
	valid := func() api.Log { return api.Log{Readings: long(3)} }
	for _, x := range []struct {
		what   string
		change func(l *api.Log)
		want   api.Errno
	}{
		{"as it is", func(l *api.Log) {}, api.OK},
		{"no readings", func(l *api.Log) { l.Readings = nil }, api.ErrArg},
		{"a reading", func(l *api.Log) { l.Readings = long(1) }, api.ErrArg},
		{"2 readings", func(l *api.Log) { l.Readings = long(2) }, api.OK},
		{"64 readings", func(l *api.Log) { l.Readings = long(64) }, api.OK},
		{"65 readings", func(l *api.Log) { l.Readings = long(65) }, api.ErrMany},
		{"65 readings at a time", func(l *api.Log) { l.Readings = make([]api.Reading, 65) }, api.ErrMany},
		{"two at a time", func(l *api.Log) { l.Readings[1].At = 0 }, api.ErrArg},
		{"the last two at a time", func(l *api.Log) { l.Readings[1].At = 20 }, api.ErrArg},
		{"back in time", func(l *api.Log) { l.Readings[1].At = 21 }, api.ErrArg},
		{"below 0", func(l *api.Log) { l.Readings[0].At = -1 }, api.ErrArg},
		{"2000 minutes", func(l *api.Log) { l.Readings[2].At = 2000 }, api.OK},
		{"2001 minutes", func(l *api.Log) { l.Readings[2].At = 2001 }, api.ErrArg},
		{"a minute", func(l *api.Log) { l.Readings = long(2); l.Readings[1].At = 1 }, api.OK},
		{"late", func(l *api.Log) { l.Readings[0].At, l.Readings[1].At, l.Readings[2].At = late-9, late-1, late }, api.OK},
		{"too late", func(l *api.Log) { l.Readings[0].At, l.Readings[1].At, l.Readings[2].At = late-9, late, late+1 }, api.ErrArg},
		{"a place back", func(l *api.Log) { l.Readings[1].Place = band(1, 0) }, api.ErrArg},
		{"a place of one number", func(l *api.Log) { l.Readings[1].Place = band(1, 1) }, api.OK},
		{"the least place", func(l *api.Log) { l.Readings[0].Place = band(-most, -most) }, api.OK},
		{"the greatest place", func(l *api.Log) { l.Readings[2].Place = band(most, most) }, api.OK},
		{"too small a place", func(l *api.Log) { l.Readings[0].Place.Lo-- }, api.ErrArg},
		{"too great a place", func(l *api.Log) { l.Readings[2].Place.Hi++ }, api.ErrArg},
		{"only too great places", func(l *api.Log) { l.Readings[2].Place = band(most+1, most+1) }, api.ErrArg},
		{"a value back", func(l *api.Log) { l.Readings[1].Values[3] = band(1, 0) }, api.ErrArg},
		{"a value of one number", func(l *api.Log) { l.Readings[1].Values[3] = band(1, 1) }, api.OK},
		{"too small a value", func(l *api.Log) { l.Readings[2].Values[0].Lo-- }, api.ErrArg},
		{"too great a value", func(l *api.Log) { l.Readings[0].Values[3].Hi++ }, api.ErrArg},
		{"a drift below 0", func(l *api.Log) { l.Drift[0] = -1 }, api.ErrArg},
		{"the greatest drifts", func(l *api.Log) { l.Drift = [4]int64{1 << 20, 1 << 20, 1 << 20, 1 << 20} }, api.OK},
		{"too great a drift", func(l *api.Log) { l.Drift[3] = 1<<20 + 1 }, api.ErrArg},
		{"not valid, nor sound", func(l *api.Log) { l.Readings[0].Place.Lo, l.Readings[2].Place, l.Drift[0] = 5, band(4, 4), -1 }, api.ErrArg},
	} {
		l := valid()
		x.change(&l)
		checkSame(t, x.what, claim.CheckLog(l), x.want)
		n, e := claim.Minutes(l)
		want := 0
		if x.want == api.OK {
			want = int(l.Readings[len(l.Readings)-1].At-l.Readings[0].At) + 1
		}
		check(t, "Minutes: "+x.what, n, e, want, x.want)
	}
}

// P11.1: what makes a log that is valid not sound.
func TestSound(t *testing.T) {
	const most = 1 << 30
	all := band(-most, most)
	for _, x := range []struct {
		what string
		l    api.Log
		want api.Errno
	}{
		{"a place that remains", logOf(0, read(0, band(5, 9)), read(1, band(1, 5))), api.OK},
		{"a place that goes back", logOf(0, read(0, band(5, 9)), read(1, band(1, 4))), api.ErrSum},
		{"a place that goes back later", logOf(0, read(0, band(5, 9)), read(5, all), read(9, band(1, 4))), api.ErrSum},
		{"a place that is far ahead", logOf(0, read(0, band(-most, -most)), read(1, band(most, most))), api.OK},
		{"places in a row", logOf(0, read(0, band(0, 9)), read(1, band(5, 6)), read(2, band(0, 5))), api.OK},
		{"places that are not in a row", logOf(0, read(0, band(0, 9)), read(1, band(6, 7)), read(2, band(0, 5))), api.ErrSum},
		{"a value that remains", logOf(0, read(0, all, band(3, 5)), read(9, all, band(5, 7))), api.OK},
		{"a value that leaps", logOf(0, read(0, all, band(3, 5)), read(9, all, band(6, 7))), api.ErrSum},
		{"a value that goes up", logOf(3, read(0, all, band(3, 5)), read(9, all, band(32, 40))), api.OK},
		{"a value that goes up too fast", logOf(3, read(0, all, band(3, 5)), read(9, all, band(33, 40))), api.ErrSum},
		{"a value that goes down", logOf(3, read(0, all, band(3, 5)), read(9, all, band(-40, -24))), api.OK},
		{"a value that goes down too fast", logOf(3, read(0, all, band(3, 5)), read(9, all, band(-40, -25))), api.ErrSum},
		{"a value that goes up past another one", logOf(1, read(0, all, band(0, 0)), read(3, all, all), read(6, all, band(6, 6))), api.OK},
		{"a value that is too low between", logOf(1, read(0, all, band(0, 0)), read(3, all, band(0, 2)), read(6, all, band(6, 6))), api.ErrSum},
		{"a value that goes far", logOf(1<<20, read(0, all, band(-most, -most)), read(2000, all, band(976<<20, most))), api.OK},
		{"a value that goes too far", logOf(1<<20, read(0, all, band(-most, -most)), read(2000, all, band(976<<20+1, most))), api.ErrSum},
	} {
		checkSame(t, x.what, claim.CheckLog(x.l), x.want)
	}
	// Each of the values counts.
	for kind := range 4 {
		l := api.Log{Drift: [4]int64{5, 5, 5, 5}, Readings: []api.Reading{read(3, all), read(5, all)}}
		l.Readings[1].Values[kind] = band(10, 10)
		checkSame(t, "a value that goes up", claim.CheckLog(l), api.OK)
		l.Drift[kind] = 4
		checkSame(t, "a value that goes up too fast", claim.CheckLog(l), api.ErrSum)
	}
}

// P11.2: the spans at each minute, and no minutes but those of the log.
func TestSpans(t *testing.T) {
	l := api.Log{Drift: [4]int64{2, 0, 1, 10}, Readings: []api.Reading{
		read(7, band(0, 10), band(5, 5), band(0, 9), band(1, 1), band(-5, 5)),
		read(9, band(4, 8), band(0, 99), band(2, 9), band(0, 9), band(50, 60)),
		read(11, band(3, 9), band(9, 10), band(0, 5), band(4, 4), band(-5, 5)),
	}}
	// At 9 the last value can be 15 at most: that is not sound.
	checkSame(t, "CheckLog", claim.CheckLog(l), api.ErrSum)
	l.Drift[3] = 30
	for minute, want := range []spans{
		{band(0, 8), [4]api.Band{band(5, 5), band(2, 5), band(1, 1), band(-5, 5)}},
		{band(0, 8), [4]api.Band{band(3, 7), band(2, 5), band(1, 2), band(20, 35)}},
		{band(4, 8), [4]api.Band{band(5, 9), band(2, 5), band(2, 3), band(50, 60)}},
		{band(4, 9), [4]api.Band{band(7, 11), band(2, 5), band(3, 4), band(20, 35)}},
		{band(4, 9), [4]api.Band{band(9, 10), band(2, 5), band(4, 4), band(-5, 5)}},
	} {
		got, e := spansAt(l, minute)
		check(t, "Spans at "+shown(minute), got, e, want, api.OK)
	}
	for _, minute := range []int{-1, 5, 7, 11, int(extremes[0]), int(extremes[len(extremes)-1])} {
		got, e := spansAt(l, minute)
		check(t, "Spans at "+shown(minute), got, e, spans{}, api.ErrRange)
	}
}

// P11.2: between readings, values can go beyond what a band can have.
func TestSpansThatAreGreat(t *testing.T) {
	const most, drift = 1 << 30, 1 << 20
	all := band(-most, most)
	l := api.Log{Drift: [4]int64{drift, drift, 0, 1}, Readings: []api.Reading{
		read(1<<40-2000, all, all, band(most, most), all, all), read(1<<40, all, all, band(most, most), all, all),
	}}
	n, e := claim.Minutes(l)
	check(t, "Minutes", n, e, 2001, api.OK)
	for minute, away := range map[int]int64{0: 0, 1: 1, 1000: 1000, 1500: 500, 2000: 0} {
		got, e := spansAt(l, minute)
		up := away * drift
		want := spans{all, [4]api.Band{band(-most-up, most+up), band(most-up, most+up), all, band(-most-away, most+away)}}
		check(t, "Spans at "+shown(minute), got, e, want, api.OK)
	}
}
