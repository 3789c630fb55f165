package permit_test

import (
	"math/rand/v2"
	"slices"
	"testing"

	"gooseneck/api"
	"gooseneck/permit"
)

// P8.4
func TestAllowed(t *testing.T) {
	night, odd := rule(hours(1320, 360)), rule(hours(60, 61))
	for _, x := range []struct {
		what  string
		rules []api.Rule
		at    int64
		want  bool
	}{
		{"nothing is in the way", nil, 0, true},
		{"nothing is in the way in the end", nil, 1 << 40, true},
		{"a rule that allows all", []api.Rule{rule()}, 1 << 40, true},
		{"hours of all day, from a minute on", []api.Rule{rule(hours(700, 700))}, 699, true},
		{"hours of all day, from the end on", []api.Rule{rule(hours(1440, 1440))}, 1439, true},
		{"hours of no minute", []api.Rule{rule(hours(1440, 0))}, 0, false},
		{"hours of no minute, at the end of a day", []api.Rule{rule(hours(1440, 0))}, 1439, false},
		{"hours of all day, written out", []api.Rule{rule(hours(0, 1440))}, 1439, true},
		{"ahead of a minute", []api.Rule{odd}, 59, false},
		{"in a minute", []api.Rule{odd}, 60, true},
		{"behind a minute", []api.Rule{odd}, 61, false},
		{"in a minute of another day", []api.Rule{odd}, 1000*day + 60, true},
		{"the night before midnight", []api.Rule{night}, 1439, true},
		{"the night behind midnight", []api.Rule{night}, day, true},
		{"the day", []api.Rule{night}, day + 360, false},
		{"only one of two rules", []api.Rule{night, odd}, 61, false},
		{"only the other one of two rules", []api.Rule{odd, rule(hours(0, 60))}, 60, false},
		{"both of two rules", []api.Rule{night, odd}, 60, true},
		{"what is forbidden", []api.Rule{rule(), rule(forbid)}, 0, false},
		{"a day of the week", []api.Rule{rule(days(8))}, 3 * day, true},
		{"the end of a day of the week", []api.Rule{rule(days(8))}, 4*day - 1, true},
		{"the day behind it", []api.Rule{rule(days(8))}, 4 * day, false},
		{"the day ahead of it", []api.Rule{rule(days(8))}, 3*day - 1, false},
		{"the same day of the next week", []api.Rule{rule(days(8))}, 10 * day, true},
		{"the last day of the week", []api.Rule{rule(days(64))}, 13 * day, true},
		{"the first day of the week", []api.Rule{rule(days(1))}, 7 * day, true},
		{"no day of the week", []api.Rule{rule(days(0))}, 0, false},
		{"a week is not ended by a year", []api.Rule{rule(days(2))}, 365 * day, true},
		{"the first day of a season", []api.Rule{rule(season(10, 12))}, 10 * day, true},
		{"the last day of a season", []api.Rule{rule(season(10, 12))}, 12*day - 1, true},
		{"behind a season", []api.Rule{rule(season(10, 12))}, 12 * day, false},
		{"ahead of a season", []api.Rule{rule(season(10, 12))}, 10*day - 1, false},
		{"a season of the next year", []api.Rule{rule(season(10, 12))}, 375 * day, true},
		{"not the same day of the year behind 366 days", []api.Rule{rule(season(10, 11))}, 376 * day, false},
		{"the last day of the year", []api.Rule{rule(season(364, 365))}, 364 * day, true},
		{"the first day of the next year", []api.Rule{rule(season(364, 365))}, 365 * day, false},
		{"a winter, in its beginning", []api.Rule{rule(season(300, 60))}, 300 * day, true},
		{"a winter, in its end", []api.Rule{rule(season(300, 60))}, 60*day - 1, true},
		{"a summer", []api.Rule{rule(season(300, 60))}, 60 * day, false},
		{"no season", []api.Rule{rule(season(365, 0))}, 364 * day, false},
		{"a season of all year", []api.Rule{rule(season(365, 365))}, 364 * day, true},
		{"a rule of another road", []api.Rule{rule(roads("y"), forbid)}, 0, true},
		{"a rule of greater sizes", []api.Rule{rule(when(0, 1), forbid)}, 0, true},
		{"counts do not matter", []api.Rule{rule(count("x", 5, 5), cost(5))}, 0, true},
	} {
		ok, e := permit.Allowed(under(x.rules...), pass(60), 0, x.at)
		check(t, x.what, ok, e, x.want, api.OK)
	}
}

// P8.4
func TestNext(t *testing.T) {
	const year, last = 365 * day, 399 * day
	morning := rule(hours(0, 60))
	for _, x := range []struct {
		what          string
		rules         []api.Rule
		minutes, from int64
		want          int64
		err           api.Errno
	}{
		{"now", nil, 10080, 77, 77, api.OK},
		{"now, in the end", nil, 10080, 1 << 40, 1 << 40, api.OK},
		{"a run that is just long enough", []api.Rule{morning}, 60, 1, day, api.OK},
		{"a run that is too short", []api.Rule{morning}, 61, 0, 0, api.ErrLate},
		{"the last start of a run", []api.Rule{morning}, 20, 40, 40, api.OK},
		{"behind the last start of a run", []api.Rule{morning}, 20, 41, day, api.OK},
		{"the last minute of a run", []api.Rule{morning}, 1, 59, 59, api.OK},
		{"over midnight", []api.Rule{rule(hours(1320, 360))}, 480, 0, 1320, api.OK},
		{"over midnight, too long", []api.Rule{rule(hours(1320, 360))}, 481, 0, 0, api.ErrLate},
		{"days, one after another", []api.Rule{rule(days(0b0111000))}, 3 * day, 0, 3 * day, api.OK},
		{"days, one more", []api.Rule{rule(days(0b0111000))}, 3*day + 1, 0, 0, api.ErrLate},
		{"over the end of the week", []api.Rule{rule(days(0b1000001))}, 2 * day, 1, 6 * day, api.OK},
		{"over the end of the year", []api.Rule{rule(season(364, 1))}, 2 * day, 1, 364 * day, api.OK},
		{"a whole week", []api.Rule{rule(days(127)), rule(season(2, 9))}, 10080, 0, 2 * day, api.OK},
		{"a minute less than a whole week", []api.Rule{rule(season(2, 9)), rule(hours(1, 0))}, 10080, 0, 0, api.ErrLate},
		{"a day of the next year", []api.Rule{rule(season(0, 1))}, 1, 0 + day, year, api.OK},
		{"forbidden", []api.Rule{rule(forbid)}, 1, 0, 0, api.ErrLate},
		{"never", []api.Rule{rule(season(365, 0))}, 1, 1 << 40, 0, api.ErrLate},
		// The days 0 of the week that are the day 34 of the year are 399 and 399 + 2555 of all; that of the day 35 is 35.
		{"on the last day that is searched", []api.Rule{rule(days(1), season(34, 35))}, day, 0, last, api.OK},
		{"on the last day, with its last minute", []api.Rule{rule(days(1), season(34, 35), hours(1439, 1440))}, 1, day - 1, last + day - 1, api.OK},
		{"on the day behind the last day", []api.Rule{rule(days(2), season(35, 36))}, 1, 0, 0, api.ErrLate},
		{"on the day behind the last day, from a day later on", []api.Rule{rule(days(2), season(35, 36))}, 1, day, 400 * day, api.OK},
		{"from the last day on into the next one", []api.Rule{rule(days(3), season(34, 36), hours(1400, 10))}, 50, 0, last + 1400, api.OK},
		{"from the last minute of the last day on", []api.Rule{rule(days(3), season(34, 36), hours(1439, 100))}, 101, 0, last + 1439, api.OK},
		{"from the last minute on, and too long", []api.Rule{rule(days(3), season(34, 36), hours(1439, 100))}, 102, 0, 0, api.ErrLate},
		{"not from the day behind the last day on", []api.Rule{rule(days(2), season(34, 36))}, 1, 0, 0, api.ErrLate},
	} {
		n, e := permit.Next(under(x.rules...), pass(x.minutes), 0, x.from)
		check(t, x.what, n, e, x.want, x.err)
	}
}

// P8.5
func TestWindows(t *testing.T) {
	morning := rule(hours(0, 60))
	for _, x := range []struct {
		what              string
		rules             []api.Rule
		minutes, from, to int64
		want              []api.Window
	}{
		{"all", nil, 10080, 5, 14405, []api.Window{{From: 5, To: 14405}}},
		{"all, in the end", nil, 10080, 1<<40 - 14400, 1 << 40, []api.Window{{From: 1<<40 - 14400, To: 1 << 40}}},
		{"all, and too short", nil, 61, 5, 65, nil},
		{"all, and just long enough", nil, 60, 5, 65, []api.Window{{From: 5, To: 65}}},
		{"a minute", nil, 1, 0, 1, []api.Window{{From: 0, To: 1}}},
		{"a minute that is not allowed", []api.Rule{morning}, 1, 60, 61, nil},
		{"nothing", []api.Rule{rule(forbid)}, 1, 0, 14400, nil},
		{"mornings", []api.Rule{morning}, 60, 0, 3 * day, []api.Window{{From: 0, To: 60}, {From: day, To: day + 60}, {From: 2 * day, To: 2*day + 60}}},
		{"mornings that are too short", []api.Rule{morning}, 61, 0, 3 * day, nil},
		{"a morning that has begun", []api.Rule{morning}, 60, 1, 2 * day, []api.Window{{From: day, To: day + 60}}},
		{"a morning that goes on", []api.Rule{morning}, 30, 0, day + 30, []api.Window{{From: 0, To: 60}, {From: day, To: day + 30}}},
		{"a morning that is cut off", []api.Rule{morning}, 30, 0, day + 29, []api.Window{{From: 0, To: 60}}},
		{"a morning of which a minute is left", []api.Rule{morning}, 1, 59, day, []api.Window{{From: 59, To: 60}}},
		{"over midnight", []api.Rule{rule(hours(1439, 1))}, 2, 0, 2 * day, []api.Window{{From: 1439, To: 1441}}},
		{"two in a day", []api.Rule{rule(hours(0, 720)), rule(hours(600, 100))}, 100, 0, day, []api.Window{{From: 0, To: 100}, {From: 600, To: 720}}},
		{"two, of which one is too short", []api.Rule{rule(hours(0, 720)), rule(hours(600, 100))}, 101, 0, day, []api.Window{{From: 600, To: 720}}},
		{"two days of a week", []api.Rule{rule(days(0b1000001))}, 1, 0, 8 * day, []api.Window{{From: 0, To: day}, {From: 6 * day, To: 8 * day}}},
		{"a turn of the year", []api.Rule{rule(season(364, 1))}, 1, 360 * day, 370 * day, []api.Window{{From: 364 * day, To: 366 * day}}},
	} {
		w, e := permit.Windows(under(x.rules...), pass(x.minutes), 0, x.from, x.to)
		check(t, x.what, w, e, x.want, api.OK)
	}
}

// combs returns rules of which each one takes ten minutes out of a day: from 10 to 20, from 30 to 40, and so on.
func combs(times int) []api.Rule {
	var l []api.Rule
	for i := range int64(times) {
		l = append(l, rule(hours(20*i+20, 20*i+10)))
	}
	return l
}

// P8.5
func TestWindowsErrors(t *testing.T) {
	for _, x := range []struct {
		what     string
		times    int
		from, to int64
		n        int
		want     api.Errno
	}{
		{"ten days", 1, 3, 14403, 11, api.OK},
		{"ten days and a minute", 1, 3, 14404, 0, api.ErrArg},
		{"far apart", 1, 0, 1 << 40, 0, api.ErrArg},
		{"no time", 1, 5, 5, 0, api.ErrArg},
		{"back", 1, 6, 5, 0, api.ErrArg},
		{"far back", 1, 1 << 40, 0, 0, api.ErrArg},
		{"from below 0", 1, -1, 5, 0, api.ErrRange},
		{"to below 0", 1, 0, -1, 0, api.ErrRange},
		{"from above", 1, 1<<40 + 1, 1<<40 + 2, 0, api.ErrRange},
		{"to above", 1, 1 << 40, 1<<40 + 1, 0, api.ErrRange},
		{"from the least one", 1, extremes[0], 5, 0, api.ErrRange},
		{"to the greatest one", 1, 0, extremes[len(extremes)-1], 0, api.ErrRange},
		{"32 windows", 4, 0, 7*day + 80, 32, api.OK},
		{"32 windows, of which the last one is a minute", 4, 0, 7*day + 61, 32, api.OK},
		{"33 windows, of which the last one is a minute", 4, 0, 7*day + 81, 0, api.ErrMany},
		{"many windows", 24, 0, 14400, 0, api.ErrMany},
	} {
		w, e := permit.Windows(under(combs(x.times)...), pass(1), 0, x.from, x.to)
		if e != x.want || e == api.OK && len(w) != x.n || e != api.OK && len(w) > 0 {
			t.Errorf("%s: %d windows, error %d, want %d, %d", x.what, len(w), e, x.n, x.want)
		}
	}
}

// P8.5: of the windows, only those count that are long enough.
func TestWindowsThatCount(t *testing.T) {
	l := under(combs(24)...)
	if w, e := permit.Windows(l, pass(11), 0, 0, 14400); e != api.OK || len(w) != 10 {
		t.Errorf("%v, %d", w, e)
	}
	if w, e := permit.Windows(l, pass(10), 0, 0, day); e != api.OK || len(w) != 25 {
		t.Errorf("%v, %d", w, e)
	}
}

// anyPassage returns a valid list of authorities and a trip, with a passage of it, and its rules.
func anyPassage(r *rand.Rand) ([]api.Authority, api.Trip, int, []api.Rule) {
	l, trip := anyPermit(r, 3)
	i := r.IntN(len(trip.Passages))
	rules, _ := rulesOf(l, trip, i)
	return l, trip, i, rules
}

// P8.4
func TestAllowedAny(t *testing.T) {
	r := chance(4)
	found := map[bool]int{}
	for range 20000 {
		l, trip, i, rules := anyPassage(r)
		at := anyMinute(r)
		want := isAllowed(rules, at)
		ok, e := permit.Allowed(l, trip, i, at)
		check(t, "Allowed", ok, e, want, api.OK)
		found[ok]++
	}
	if found[true] < 3000 || found[false] < 3000 {
		t.Errorf("%v", found)
	}
}

// P8.4, P8.10: no start before what Next returns is one, and from it on all minutes are allowed.
func TestNextAny(t *testing.T) {
	r := chance(5)
	found := map[string]int{}
	for range 300 {
		l, trip, i, rules := anyPassage(r)
		begin, minutes := anyMinute(r), trip.Passages[i].Minutes
		want, wantErr := nextOf(rules, minutes, begin), api.OK
		n, e := permit.Next(l, trip, i, begin)
		switch {
		case want < 0:
			want, wantErr = 0, api.ErrLate
			found["none"]++
		case want == begin:
			found["now"]++
		default:
			found["later"]++
		}
		check(t, "Next", n, e, want, wantErr)
	}
	if found["none"] < 30 || found["now"] < 30 || found["later"] < 30 {
		t.Errorf("%v", found)
	}
}

// P8.5, P8.10: all minutes of windows are allowed; each start at which the passage may begin, and ends in time, lies in one.
func TestWindowsAny(t *testing.T) {
	r := chance(6)
	found, many := 0, 0
	for range 1500 {
		l, trip, i, rules := anyPassage(r)
		begin, minutes := anyMinute(r), trip.Passages[i].Minutes
		begin = min(begin, 1<<40-14400)
		end := begin + pick(r, 14400, from(r, 1, 14400), from(r, 1, 200))
		want, wantErr := windowsOf(rules, minutes, begin, end), api.OK
		if len(want) > 32 {
			want, wantErr = nil, api.ErrMany
			many++
		}
		w, e := permit.Windows(l, trip, i, begin, end)
		check(t, "Windows", w, e, want, wantErr)
		found += len(w)
		for t0 := begin; t0+minutes <= end && wantErr == api.OK; t0 += from(r, 1, 300) {
			isIn := slices.ContainsFunc(w, func(w api.Window) bool { return w.From <= t0 && t0+minutes <= w.To })
			if areAllowed(rules, t0, t0+minutes) != isIn {
				t.Fatalf("%d of %v", t0, w)
			}
		}
	}
	if found < 1500 {
		t.Errorf("only %d windows", found)
	}
}
