package claim_test

import (
	"testing"

	"gooseneck/api"
	"gooseneck/claim"
)

// The examples of the chapter.
func TestExamples(t *testing.T) {
	l := example()
	n, e := claim.Minutes(l)
	check(t, "Minutes", n, e, 5, api.OK)
	s, e := spansAt(l, 2)
	check(t, "Spans", s, e, spans{band(0, 100), [4]api.Band{band(5, 9)}}, api.OK)
	for _, x := range []struct {
		what string
		c    api.Claim
		want int
	}{
		{"above 4", above(4), api.VerdictProven},
		{"above 6", above(6), api.VerdictOpen},
		{"above 11", above(11), api.VerdictExcluded},
		{"at 200 to 300", at(above(4), 200, 300), api.VerdictExcluded},
		{"from 101 to 103", within(above(4), 101, 103), api.VerdictOpen},
	} {
		v, e := claim.Verdict(l, x.c)
		check(t, x.what, v, e, x.want, api.OK)
	}
	// In the step 0, with the values 5 and 5.
	past := historyOf([]int64{0, 60, 60, 60, 90}, 5, 5, 6, 7, 9)
	ok, e := claim.Fits(l, past)
	check(t, "Fits", ok, e, true, api.OK)
	ok, e = claim.Damages(l, above(6), past)
	check(t, "Damages", ok, e, false, api.OK)
	for _, places := range [][]int64{{0, 60, 60, 60, 90}, {0, 0, 0, 0, 90}} {
		h := historyOf(places, 5, 5, 6, 7, 9)
		ok, e = claim.Damages(l, within(above(4), 101, 103), h)
		check(t, "Damages from 101 to 103", ok, e, false, api.OK)
		ok, e = claim.Damages(l, above(4), h)
		check(t, "Damages", ok, e, true, api.OK)
	}
}

// P11.1: each part of a claim is looked at, up to its limits.
func TestCheckClaim(t *testing.T) {
	const most, late, dear = 1 << 30, 1 << 40, 1 << 26
	for _, x := range []struct {
		what string
		c    api.Claim
		want api.Errno
	}{
		{"all 0", api.Claim{}, api.OK},
		{"the greatest", api.Claim{From: most, To: most, Kind: 3, Limit: most, Begin: late, End: late, Amount: dear}, api.OK},
		{"the least", api.Claim{From: -most, To: -most, Limit: -most}, api.OK},
		{"From above To", api.Claim{From: 1}, api.ErrArg},
		{"From too small", api.Claim{From: -most - 1}, api.ErrArg},
		{"From and To too small", api.Claim{From: -most - 1, To: -most - 1}, api.ErrArg},
		{"To too great", api.Claim{To: most + 1}, api.ErrArg},
		{"From and To too great", api.Claim{From: most + 1, To: most + 1}, api.ErrArg},
		{"a Kind of 4", api.Claim{Kind: 4}, api.ErrArg},
		{"a Kind below 0", api.Claim{Kind: -1}, api.ErrArg},
		{"Limit too great", api.Claim{Limit: most + 1}, api.ErrArg},
		{"Limit too small", api.Claim{Limit: -most - 1}, api.ErrArg},
		{"Begin above End", api.Claim{Begin: 1}, api.ErrArg},
		{"Begin below 0", api.Claim{Begin: -1}, api.ErrArg},
		{"Begin and End below 0", api.Claim{Begin: -1, End: -1}, api.ErrArg},
		{"End too great", api.Claim{End: late + 1}, api.ErrArg},
		{"Begin and End too great", api.Claim{Begin: late + 1, End: late + 1}, api.ErrArg},
		{"Amount below 0", api.Claim{Amount: -1}, api.ErrArg},
		{"Amount too great", api.Claim{Amount: dear + 1}, api.ErrArg},
	} {
		checkSame(t, x.what, claim.CheckClaim(x.c), x.want)
		_, e := claim.Verdict(example(), x.c)
		checkSame(t, "Verdict on "+x.what, e, x.want)
	}
}

// P11.4: what is at the place just so, in time just so, and above the limit just so.
func TestVerdictEdges(t *testing.T) {
	// The convoy stands at 10, with a value of 5, and goes to 20 in the last minute, with a value of 7.
	l := logOf(2, read(50, band(10, 10), band(5, 5)), read(53, band(10, 10), band(5, 5)), read(54, band(20, 20), band(7, 7)))
	// In between, in the first three steps, the value is up to 7, if it goes up and back.
	for _, x := range []struct {
		what string
		c    api.Claim
		want int
	}{
		{"all", wide(4), api.VerdictProven},
		{"at 10", at(wide(4), 10, 10), api.VerdictProven},
		{"ahead of 10", at(wide(4), 9, 9), api.VerdictExcluded},
		{"up to 10", at(wide(4), 0, 10), api.VerdictProven},
		{"between", at(wide(4), 11, 19), api.VerdictProven},
		{"at 20", at(wide(4), 20, 20), api.VerdictProven},
		{"behind 20", at(wide(4), 21, 21), api.VerdictExcluded},
		{"from 20 on", at(wide(4), 20, 99), api.VerdictProven},
		{"above 5", wide(5), api.VerdictProven},
		{"above 5 at 10", at(wide(5), 10, 10), api.VerdictProven},
		{"above 5 at 10, without the last step", within(at(wide(5), 10, 10), 0, 53), api.VerdictOpen},
		{"above 6 at 10, without the last step", within(at(wide(6), 10, 10), 0, 53), api.VerdictOpen},
		{"above 7 at 10, without the last step", within(at(wide(7), 10, 10), 0, 53), api.VerdictExcluded},
		{"above 6", wide(6), api.VerdictProven},
		{"above 7", wide(7), api.VerdictExcluded},
		{"the last step", within(wide(6), 53, 54), api.VerdictProven},
		{"too short for the last step", within(wide(4), 54, 54), api.VerdictExcluded},
		{"begun too late for the last step", within(wide(4), 54, 99), api.VerdictExcluded},
		{"ended too early for the first step", within(wide(4), 0, 50), api.VerdictExcluded},
		{"the first step", within(wide(4), 50, 51), api.VerdictProven},
		{"the first step only", within(wide(4), 0, 51), api.VerdictProven},
		{"no step", within(wide(4), 51, 51), api.VerdictExcluded},
		{"before the log", within(wide(4), 0, 49), api.VerdictExcluded},
		{"behind the log", within(wide(4), 55, 99), api.VerdictExcluded},
	} {
		v, e := claim.Verdict(l, x.c)
		check(t, x.what, v, e, x.want, api.OK)
	}
}

// P11.4: each claim is about its own value.
func TestVerdictKinds(t *testing.T) {
	l := api.Log{Drift: [4]int64{1, 2, 3, 4}, Readings: []api.Reading{
		read(0, band(0, 0), band(10, 10), band(20, 20), band(30, 30), band(40, 40)),
		read(2, band(9, 9), band(10, 10), band(20, 20), band(30, 30), band(40, 40)),
	}}
	for kind, drift := range l.Drift {
		value := int64(10 * (kind + 1))
		for _, x := range []struct {
			limit int64
			want  int
		}{
			{value - 1, api.VerdictProven}, {value, api.VerdictOpen},
			{value + drift - 1, api.VerdictOpen}, {value + drift, api.VerdictExcluded},
		} {
			c := wide(x.limit)
			c.Kind = kind
			v, e := claim.Verdict(l, c)
			check(t, "the value "+shown(kind)+" above "+shown(x.limit), v, e, x.want, api.OK)
		}
	}
}

// P11.1 to P11.7: the errors of the log come first, then that of the claim, then all others.
func TestOrderOfErrors(t *testing.T) {
	long, late, unsound := example(), example(), example()
	for len(long.Readings) < 65 {
		long.Readings = append(long.Readings, long.Readings[1])
	}
	late.Readings[0].At = 105
	late.Drift[0] = 0
	unsound.Drift[0] = 0
	bad := api.Claim{Kind: 4}
	h := api.History{}
	many := make([]int, 2001)
	claims := make([]api.Claim, 33)
	for i := range claims {
		claims[i] = bad
	}
	for _, x := range []struct {
		what        string
		l           api.Log
		log, others api.Errno
	}{
		{"too many readings", long, api.ErrMany, api.ErrMany},
		{"a log that is not valid", late, api.ErrArg, api.ErrArg},
		{"a log that is not sound", unsound, api.ErrSum, api.ErrSum},
		{"a claim that is not valid", example(), api.OK, api.ErrArg},
	} {
		checkSame(t, "CheckLog: "+x.what, claim.CheckLog(x.l), x.log)
		_, e := claim.Minutes(x.l)
		checkSame(t, "Minutes: "+x.what, e, x.log)
		if x.log != api.OK {
			_, _, e = claim.Spans(x.l, -1)
			checkSame(t, "Spans: "+x.what, e, x.log)
			_, e = claim.Fits(x.l, h)
			checkSame(t, "Fits: "+x.what, e, x.log)
			_, e = claim.Settle(x.l, claims, -1, -1)
			checkSame(t, "Settle: "+x.what, e, x.log)
		}
		_, e = claim.Damages(x.l, bad, h)
		checkSame(t, "Damages: "+x.what, e, x.others)
		_, e = claim.Verdict(x.l, bad)
		checkSame(t, "Verdict: "+x.what, e, x.others)
		_, e = claim.Prove(x.l, bad)
		checkSame(t, "Prove: "+x.what, e, x.others)
		checkSame(t, "CheckProof: "+x.what, claim.CheckProof(x.l, bad, many), x.others)
		_, e = claim.With(x.l, bad)
		checkSame(t, "With: "+x.what, e, x.others)
		_, e = claim.Without(x.l, bad)
		checkSame(t, "Without: "+x.what, e, x.others)
	}
}
