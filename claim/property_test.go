package claim_test

import (
	"cmp"
	"math/rand/v2"
	"slices"
	"testing"

	"gooseneck/api"
	"gooseneck/claim"
)

// P11.8, P11.9, P11.10: of long logs, with numbers of any size. What With and Without return fits, and damages, or does not;
// what fits is in the spans, and does what the verdict says; what Prove returns is right.
func TestLongLogs(t *testing.T) {
	r := chance(6)
	verdicts := map[int]int{}
	for range 200 {
		l := longLog(r, pick(r, 10, 60, 300), pick(r, 2, 5, 64))
		checkSame(t, "CheckLog", claim.CheckLog(l), api.OK)
		h := anyHistory(r, l)
		if ok, e := claim.Fits(l, h); !ok || e != api.OK || !fits(l, h) {
			t.Errorf("Fits of %v to %v: %v, %d", h, l, ok, e)
		}
		for range 4 {
			c := longClaim(r, l)
			verdict, e := claim.Verdict(l, c)
			checkSame(t, "the error of Verdict", e, api.OK)
			verdicts[verdict]++
			checkFound(t, "With", l, c, claim.With, verdict != api.VerdictExcluded, true)
			checkFound(t, "Without", l, c, claim.Without, verdict != api.VerdictProven, false)
			got, e := claim.Damages(l, c, h)
			check(t, "Damages", got, e, damages(l, c, h), api.OK)
			if isThere := verdict != api.VerdictOpen; isThere && got != (verdict == api.VerdictProven) {
				t.Errorf("the verdict on %v is %d, and a history that damages: %v", c, verdict, got)
			}
			if proof, e := claim.Prove(l, c); e == api.OK && (claim.CheckProof(l, c, proof) != api.OK || !isRight(l, c, proof)) {
				t.Errorf("Prove of %v: %v is not right", c, proof)
			}
		}
	}
	for _, verdict := range []int{api.VerdictOpen, api.VerdictProven, api.VerdictExcluded} {
		if verdicts[verdict] < 100 {
			t.Errorf("the verdicts were %v", verdicts)
		}
	}
}

// P11.8: all of the least numbers of the spans fit together, and so do the greatest ones.
func TestSpansFit(t *testing.T) {
	r := chance(7)
	for range 60 {
		l := longLog(r, 200, 64)
		n, _ := claim.Minutes(l)
		var least, most api.History
		for minute := range n {
			s, e := spansAt(l, minute)
			checkSame(t, "the error of Spans", e, api.OK)
			least.Places, most.Places = append(least.Places, s.place.Lo), append(most.Places, s.place.Hi)
			var low, high [4]int64
			for kind, b := range s.values {
				low[kind], high[kind] = b.Lo, b.Hi
			}
			least.Values, most.Values = append(least.Values, low), append(most.Values, high)
		}
		for _, h := range []api.History{least, most} {
			ok, e := claim.Fits(l, h)
			check(t, "Fits of "+shown(h)+" to "+shown(l), ok, e, true, api.OK)
		}
	}
}

// narrow returns a log with narrower bands, or another reading, that h still fits.
func narrow(r *rand.Rand, l api.Log, h api.History) api.Log {
	l = cloneLog(l)
	first := l.Readings[0].At
	if minute := r.IntN(len(h.Places)); len(l.Readings) < 64 && r.IntN(2) == 0 {
		x := read(first+int64(minute), about(r, h.Places[minute], 9))
		for kind, n := range h.Values[minute] {
			x.Values[kind] = about(r, n, 9)
		}
		i, isThere := slices.BinarySearchFunc(l.Readings, x.At, func(x api.Reading, at int64) int { return cmp.Compare(x.At, at) })
		if !isThere && isMeasured(h.Values[minute]) {
			l.Readings = slices.Insert(l.Readings, i, x)
		}
	}
	for i := range l.Readings {
		x := &l.Readings[i]
		minute := x.At - first
		x.Place = tight(r, x.Place, h.Places[minute])
		for kind, n := range h.Values[minute] {
			x.Values[kind] = tight(r, x.Values[kind], n)
		}
	}
	return l
}

// isMeasured reports whether values can be in bands: in between they can have been beyond all of these.
func isMeasured(values [4]int64) bool {
	return slices.Min(values[:]) >= -1<<30 && slices.Max(values[:]) <= 1<<30
}

// tight returns a part of a band that has a number of it.
func tight(r *rand.Rand, b api.Band, n int64) api.Band {
	return band(pick(r, b.Lo, from(r, b.Lo, n)), pick(r, b.Hi, from(r, n, b.Hi)))
}

// P11.11: what a log proves, or excludes, is so by a log that says more.
func TestMoreReadings(t *testing.T) {
	r := chance(8)
	proven, excluded, settled := 0, 0, 0
	for range 1500 {
		l := longLog(r, pick(r, 5, 60), pick(r, 2, 5, 64))
		if r.IntN(2) == 0 {
			if l = anyLog(r); claim.CheckLog(l) != api.OK {
				continue
			}
		}
		more := narrow(r, l, anyHistory(r, l))
		checkSame(t, "CheckLog of "+shown(more), claim.CheckLog(more), api.OK)
		for range 4 {
			c := longClaim(r, l)
			before, _ := claim.Verdict(l, c)
			verdict, e := claim.Verdict(more, c)
			checkSame(t, "the error of Verdict", e, api.OK)
			switch {
			case before == api.VerdictProven:
				proven++
			case before == api.VerdictExcluded:
				excluded++
			case verdict != api.VerdictOpen:
				settled++
			}
			if before != api.VerdictOpen && verdict != before {
				t.Errorf("the verdict on %v by %v is %d, and by %v %d", c, l, before, more, verdict)
			}
		}
	}
	if proven < 300 || excluded < 300 || settled < 100 {
		t.Errorf("%d were proven, %d excluded, %d open ones no more so", proven, excluded, settled)
	}
}

// P11.12: a claim about more is proven if one about a part of it is, and excluded only if this is.
func TestWiderClaims(t *testing.T) {
	r := chance(9)
	proven, excluded := 0, 0
	for range 1500 {
		l := longLog(r, pick(r, 5, 60), pick(r, 2, 5, 64))
		for range 4 {
			c := longClaim(r, l)
			d := c
			d.From, d.To = max(-1<<30, c.From-from(r, 0, 9)), min(1<<30, c.To+from(r, 0, 9))
			d.Begin, d.End = max(0, c.Begin-from(r, 0, 9)), min(1<<40, c.End+from(r, 0, 9))
			d.Limit = max(-1<<30, c.Limit-from(r, 0, 2))
			part, _ := claim.Verdict(l, c)
			whole, _ := claim.Verdict(l, d)
			if part == api.VerdictProven {
				proven++
				checkSame(t, "the verdict on "+shown(d)+" by "+shown(l), whole, api.VerdictProven)
			}
			if whole == api.VerdictExcluded {
				excluded++
				checkSame(t, "the verdict on "+shown(c)+" by "+shown(l), part, api.VerdictExcluded)
			}
		}
	}
	if proven < 300 || excluded < 300 {
		t.Errorf("%d were proven, %d excluded", proven, excluded)
	}
}
