package claim_test

import (
	"math"
	"slices"
	"testing"

	"gooseneck/api"
	"gooseneck/claim"
)

// P11.3: each part of a history is looked at.
func TestFits(t *testing.T) {
	const least, most = math.MinInt64, math.MaxInt64
	valid := func() api.History { return historyOf([]int64{0, 0, 30, 90, 90}, 5, 7, 7, 7, 9) }
	for _, x := range []struct {
		what   string
		change func(h *api.History)
		want   bool
	}{
		{"as it is", func(h *api.History) {}, true},
		{"none", func(h *api.History) { *h = api.History{} }, false},
		{"a minute less", func(h *api.History) { h.Places, h.Values = h.Places[:4], h.Values[:4] }, false},
		{"a minute more", func(h *api.History) {
			h.Places, h.Values = append(h.Places, 90), append(h.Values, [4]int64{9})
		}, false},
		{"a place less", func(h *api.History) { h.Places = h.Places[1:] }, false},
		{"a place more", func(h *api.History) { h.Places = append(h.Places, 90) }, false},
		{"no values", func(h *api.History) { h.Values = nil }, false},
		{"values more", func(h *api.History) { h.Values = append(h.Values, [4]int64{9}) }, false},
		{"ahead", func(h *api.History) { h.Places[0] = -1 }, false},
		{"at the end of the band", func(h *api.History) { h.Places[0], h.Places[1] = 10, 10 }, true},
		{"beyond the end of the band", func(h *api.History) { h.Places[0], h.Places[1] = 11, 11 }, false},
		{"at the end of the last band", func(h *api.History) { h.Places[4] = 100 }, true},
		{"beyond the end of the last band", func(h *api.History) { h.Places[4] = 101 }, false},
		{"stops", func(h *api.History) { h.Places[3] = 30 }, true},
		{"goes back", func(h *api.History) { h.Places[3] = 29 }, false},
		{"goes back in the first step", func(h *api.History) { h.Places[0] = 1 }, false},
		{"goes back in the last step", func(h *api.History) { h.Places[3] = 91 }, false},
		{"leaps up", func(h *api.History) { h.Values[1][0] = 8 }, false},
		{"leaps down", func(h *api.History) { h.Values[2][0] = 4 }, false},
		{"goes down", func(h *api.History) { h.Values[2][0] = 5 }, true},
		{"leaps up in the last step", func(h *api.History) { h.Values[3][0] = 6 }, false},
		{"begins with another value", func(h *api.History) { h.Values[0][0] = 6 }, false},
		{"ends with another value", func(h *api.History) { h.Values[4][0] = 8 }, false},
		{"has a second value", func(h *api.History) { h.Values[2][1] = 1 }, false},
		{"ends with a last value", func(h *api.History) { h.Values[4][3] = 1 }, false},
		{"places far ahead", func(h *api.History) { h.Places[1] = least }, false},
		{"places far behind", func(h *api.History) { h.Places[3] = most }, false},
		{"a great value", func(h *api.History) { h.Values[2][0] = most }, false},
		{"a small value", func(h *api.History) { h.Values[2][0] = least }, false},
		// The difference of these is -1, and -2, in an int64.
		{"great and small values", func(h *api.History) { h.Values[1][3], h.Values[2][3] = most, least }, false},
		{"great and small first values", func(h *api.History) { h.Values[2][0], h.Values[3][0] = most-1, least }, false},
	} {
		h := valid()
		x.change(&h)
		got, e := claim.Fits(example(), h)
		check(t, x.what, got, e, x.want, api.OK)
	}
}

// P11.3: a history fits the readings at all of their minutes, with all of their values.
func TestFitsReadings(t *testing.T) {
	l := api.Log{Drift: [4]int64{9, 9, 9, 9}}
	for i := range int64(3) {
		l.Readings = append(l.Readings, read(10+2*i, band(1, 3), band(1, 3), band(1, 3), band(1, 3), band(1, 3)))
	}
	for minute := range 5 {
		for kind := range 4 {
			for _, n := range []int64{0, 1, 3, 4} {
				h := api.History{Places: []int64{2, 2, 2, 2, 2}, Values: make([][4]int64, 5)}
				for i := range h.Values {
					h.Values[i] = [4]int64{2, 2, 2, 2}
				}
				h.Values[minute][kind] = n
				got, e := claim.Fits(l, h)
				check(t, "a value of "+shown(n)+" at "+shown(minute), got, e, minute%2 == 1 || n == 1 || n == 3, api.OK)
			}
		}
	}
}

// P11.3: a step damages if it is within the claim, at the place and above the limit.
func TestDamages(t *testing.T) {
	l := example()
	// It passes the places 40 to 50 in the step 2.
	past := historyOf([]int64{0, 10, 39, 51, 90}, 5, 7, 7, 8, 9)
	stays := historyOf([]int64{0, 40, 50, 50, 90}, 5, 7, 9, 7, 9)
	for _, x := range []struct {
		what string
		c    api.Claim
		h    api.History
		want bool
	}{
		{"all", above(4), past, true},
		{"above the value behind it", above(7), past, true},
		{"not above the value behind it", above(8), past, false},
		{"just in time", within(above(4), 102, 103), past, true},
		{"too late", within(above(4), 103, 1000), past, false},
		{"too early", within(above(4), 0, 102), past, false},
		{"at no step", within(above(4), 102, 102), past, false},
		{"at 39", at(above(4), 39, 39), past, true},
		{"at 39, above 7", at(above(7), 39, 39), past, true},
		{"at 38, above 6", at(above(6), 38, 38), past, true},
		{"at 38, above 7", at(above(7), 38, 38), past, false},
		{"at 51, above 8", at(above(8), 51, 51), past, true},
		{"at 51, not in the step behind it", within(at(above(7), 51, 51), 0, 103), past, true},
		{"ahead", at(above(4), -9, -1), past, false},
		{"behind", at(above(4), 91, 99), past, false},
		{"at the first place", at(above(4), -9, 0), past, true},
		{"at the last place", at(above(4), 90, 99), past, true},
		{"the value ahead of the step", at(above(8), 50, 50), stays, true},
		{"the value ahead of the step, in time", within(at(above(8), 50, 50), 102, 103), stays, true},
		{"not later", within(at(above(8), 50, 50), 103, 104), stays, true},
		{"not above it", within(at(above(9), 50, 50), 0, 1000), stays, false},
		{"of another value", api.Claim{From: 40, To: 50, Kind: 1, End: 1000}, past, false},
		{"of another value, above less", api.Claim{From: 40, To: 50, Kind: 1, Limit: -1, End: 1000}, past, true},
	} {
		got, e := claim.Damages(l, x.c, x.h)
		check(t, x.what, got, e, x.want, api.OK)
	}
}

// P11.3: a history that does not fit damages, too; but it has to be as long as the log.
func TestDamagesOfAny(t *testing.T) {
	l := example()
	const least, most = math.MinInt64, math.MaxInt64
	for _, x := range []struct {
		what string
		h    api.History
		want bool
	}{
		{"a place that goes back", historyOf([]int64{100, 0, 100, 0, 0}, 9, 9, 9, 9, 9), true},
		{"a place that only goes back", historyOf([]int64{100, 90, 80, 30, 0}, 9, 9, 9, 9, 9), false},
		{"through all", historyOf([]int64{least, most, most, most, most}, 0, most, 0, 0, 0), true},
		{"through all the way back", historyOf([]int64{most, least, least, least, least}, most, most, most, most, most), false},
		{"with small values", historyOf([]int64{least, most, most, most, most}, least, 4, most, most, most), false},
	} {
		got, e := claim.Damages(l, above(4), x.h)
		check(t, x.what, got, e, x.want, api.OK)
		got, e = claim.Fits(l, x.h)
		check(t, x.what+": Fits", got, e, false, api.OK)
	}
	h := historyOf([]int64{0, 40, 50, 50, 90}, 5, 7, 9, 7, 9)
	for what, short := range map[string]api.History{
		"none":           {},
		"no places":      {Values: h.Values},
		"no values":      {Places: h.Places},
		"a place less":   {Places: h.Places[:4], Values: h.Values},
		"values less":    {Places: h.Places, Values: h.Values[:4]},
		"a place more":   {Places: append(slices.Clone(h.Places), 90), Values: h.Values},
		"values more":    {Places: h.Places, Values: append(slices.Clone(h.Values), [4]int64{9})},
		"a minute less":  {Places: h.Places[:4], Values: h.Values[:4]},
		"a minute's end": {Places: h.Places[:1], Values: h.Values[:1]},
	} {
		got, e := claim.Damages(l, above(4), short)
		check(t, what, got, e, false, api.ErrEqual)
		got, e = claim.Fits(l, short)
		check(t, what+": Fits", got, e, false, api.OK)
	}
}

// P11.6, P11.9: a history that passes between two steps, and one that is there in a single step.
func TestWithAndWithout(t *testing.T) {
	// The value is high at 2 and at 5; the convoy can be anywhere from 0 to 100 all the time.
	l := logOf(4, read(0, band(0, 100), band(0, 0)), read(2, band(0, 100), band(8, 8)), read(3, band(0, 100), band(4, 4)),
		read(4, band(0, 100), band(4, 4)), read(5, band(0, 100), band(8, 8)), read(7, band(0, 100), band(0, 0)))
	place := at(wide(4), 40, 50)
	for _, x := range []struct {
		what          string
		c             api.Claim
		change        func(l *api.Log)
		with, without bool
	}{
		{"between, ahead or past", place, func(l *api.Log) {}, true, true},
		{"only ahead", place, func(l *api.Log) { l.Readings[5].Place = band(0, 39) }, false, true},
		{"only past", place, func(l *api.Log) { l.Readings[0].Place = band(51, 100) }, false, true},
		{"only in the step 3", place, func(l *api.Log) {
			l.Readings[2].Place, l.Readings[3].Place = band(0, 39), band(51, 100)
		}, false, true},
		{"in the step 3, or at the place", place, func(l *api.Log) {
			l.Readings[2].Place, l.Readings[3].Place = band(0, 40), band(50, 100)
		}, true, true},
		{"at the place in the step 3", place, func(l *api.Log) {
			l.Readings[2].Place, l.Readings[3].Place = band(40, 45), band(51, 100)
		}, true, false},
		{"at the place behind the step 3", place, func(l *api.Log) {
			l.Readings[2].Place, l.Readings[3].Place = band(0, 39), band(40, 50)
		}, true, false},
		{"never above", at(wide(8), 40, 50), func(l *api.Log) {}, false, true},
		{"ahead of all", within(place, 0, 1), func(l *api.Log) {}, false, true},
		{"behind all", within(place, 6, 9), func(l *api.Log) {}, false, true},
		{"all over the place", wide(4), func(l *api.Log) {}, true, false},
	} {
		l := cloneLog(l)
		x.change(&l)
		if e := claim.CheckLog(l); e != api.OK {
			t.Fatalf("%s: CheckLog: %d", x.what, e)
		}
		checkFound(t, "With, "+x.what, l, x.c, claim.With, x.with, true)
		checkFound(t, "Without, "+x.what, l, x.c, claim.Without, x.without, false)
	}
}
