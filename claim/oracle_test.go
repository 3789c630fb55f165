package claim_test

import (
	"math/big"
	"slices"
	"testing"

	"gooseneck/api"
	"gooseneck/claim"
)

// world is all that may have happened by a log: the places and the values do not depend on each other.
type world struct {
	drives [][]int64
	values [4][][]int64
}

// worldOf returns all drives and values that fit a log of a few minutes and small numbers.
func worldOf(l api.Log) world {
	var w world
	first, last := l.Readings[0], l.Readings[len(l.Readings)-1]
	minutes := int(last.At-first.At) + 1
	bandAt := func(minute int, of func(api.Reading) api.Band) (api.Band, bool) {
		for _, x := range l.Readings {
			if x.At == first.At+int64(minute) {
				return of(x), true
			}
		}
		return api.Band{}, false
	}
	placeOf := func(x api.Reading) api.Band { return x.Place }
	w.drives = all(minutes, placeOf, bandAt, func(before int64) (int64, int64) { return before, last.Place.Hi })
	for kind, drift := range l.Drift {
		valueOf := func(x api.Reading) api.Band { return x.Values[kind] }
		w.values[kind] = all(minutes, valueOf, bandAt, func(before int64) (int64, int64) { return before - drift, before + drift })
	}
	return w
}

// all returns all lists of a number for each minute that are in the bands of the readings, and of which each one is where it
// can be behind the one before.
func all(
	minutes int, of func(api.Reading) api.Band, bandAt func(int, func(api.Reading) api.Band) (api.Band, bool),
	behind func(int64) (int64, int64),
) [][]int64 {
	var found [][]int64
	var l []int64
	var next func()
	next = func() {
		if len(l) == minutes {
			found = append(found, slices.Clone(l))
			return
		}
		b, isRead := bandAt(len(l), of)
		low, high := b.Lo, b.Hi
		if len(l) > 0 {
			low, high = behind(l[len(l)-1])
		}
		for n := low; n <= high; n++ {
			if isRead && (n < b.Lo || n > b.Hi) {
				continue
			}
			l = append(l, n)
			next()
			l = l[:len(l)-1]
		}
	}
	next()
	return found
}

func (w world) isSound() bool {
	return len(w.drives) > 0 && !slices.ContainsFunc(w.values[:], func(l [][]int64) bool { return len(l) == 0 })
}

// has reports whether a history is one of those that may have happened.
func (w world) has(h api.History) bool {
	isThere := func(l [][]int64, one []int64) bool {
		return slices.ContainsFunc(l, func(x []int64) bool { return slices.Equal(x, one) })
	}
	if len(h.Places) != len(h.Values) || !isThere(w.drives, h.Places) {
		return false
	}
	for kind := range w.values {
		var one []int64
		for _, v := range h.Values {
			one = append(one, v[kind])
		}
		if !isThere(w.values[kind], one) {
			return false
		}
	}
	return true
}

// numbers returns what some lists have at a minute, each number once.
func numbers(l [][]int64, minute int) []int64 {
	var n []int64
	for _, one := range l {
		n = append(n, one[minute])
	}
	slices.Sort(n)
	return slices.Compact(n)
}

// upTo returns all numbers of a band.
func upTo(b api.Band) []int64 {
	var l []int64
	for n := b.Lo; n <= b.Hi; n++ {
		l = append(l, n)
	}
	return l
}

// steps returns, as bits, the steps of a list of which something is so.
func steps(l []int64, is func(step int, one, next int64) bool) int {
	bits := 0
	for k := range len(l) - 1 {
		if is(k, l[k], l[k+1]) {
			bits |= 1 << k
		}
	}
	return bits
}

// isWithin reports whether a step is within a claim.
func isWithin(l api.Log, c api.Claim, step int) bool {
	at := l.Readings[0].At + int64(step)
	return at >= c.Begin && at+1 <= c.End
}

// judge returns whether some histories damage, and whether some do not.
func (w world) judge(l api.Log, c api.Claim) (some, not bool) {
	there, high := map[int]bool{}, map[int]bool{}
	for _, d := range w.drives {
		there[steps(d, func(k int, one, next int64) bool { return isWithin(l, c, k) && one <= c.To && next >= c.From })] = true
	}
	for _, v := range w.values[c.Kind] {
		high[steps(v, func(_ int, one, next int64) bool { return max(one, next) > c.Limit })] = true
	}
	for a := range there {
		for b := range high {
			some = some || a&b != 0
			not = not || a&b == 0
		}
	}
	return some, not
}

// fits reports whether a history fits a log, by the definition, with numbers of any size.
func fits(l api.Log, h api.History) bool {
	first := l.Readings[0].At
	n := int(l.Readings[len(l.Readings)-1].At-first) + 1
	if len(h.Places) != n || len(h.Values) != n {
		return false
	}
	for i := 1; i < n; i++ {
		if h.Places[i] < h.Places[i-1] {
			return false
		}
		for kind, drift := range l.Drift {
			d := new(big.Int).Sub(big.NewInt(h.Values[i][kind]), big.NewInt(h.Values[i-1][kind]))
			if d.CmpAbs(big.NewInt(drift)) > 0 {
				return false
			}
		}
	}
	for _, x := range l.Readings {
		p, v := h.Places[x.At-first], h.Values[x.At-first]
		for kind, b := range x.Values {
			if v[kind] < b.Lo || v[kind] > b.Hi {
				return false
			}
		}
		if p < x.Place.Lo || p > x.Place.Hi {
			return false
		}
	}
	return true
}

// damages reports whether a history damages, by the definition.
func damages(l api.Log, c api.Claim, h api.History) bool {
	for k := range len(h.Places) - 1 {
		isThere := h.Places[k] <= c.To && h.Places[k+1] >= c.From
		isHigh := h.Values[k][c.Kind] > c.Limit || h.Values[k+1][c.Kind] > c.Limit
		if isWithin(l, c, k) && isThere && isHigh {
			return true
		}
	}
	return false
}

// isRight reports whether a proof is right, by the definition, with the spans that Spans returns.
func isRight(l api.Log, c api.Claim, proof []int) bool {
	n, _ := claim.Minutes(l)
	at := func(minute int) spans {
		s, _ := spansAt(l, minute)
		return s
	}
	for i, k := range proof {
		if k < 0 || k >= n-1 || i > 0 && k <= proof[i-1] || !isWithin(l, c, k) {
			return false
		}
		if max(at(k).values[c.Kind].Lo, at(k + 1).values[c.Kind].Lo) <= c.Limit {
			return false
		}
	}
	for i := 0; i <= len(proof); i++ {
		isLate := i > 0 && at(proof[max(i, 1)-1]+1).place.Lo >= c.From
		isEarly := i < len(proof) && at(proof[min(i, len(proof)-1)]).place.Hi <= c.To
		isNext := i > 0 && i < len(proof) && proof[i] == proof[max(i, 1)-1]+1
		if !isLate && !isEarly && !isNext {
			return false
		}
	}
	return true
}

// P11.1, P11.2, P11.8: a log is sound just if a history fits it; the spans are what the histories that fit have.
func TestAllHistories(t *testing.T) {
	r := chance(1)
	sound, empty := 0, 0
	for range 4000 {
		l := anyLog(r)
		w := worldOf(l)
		if !w.isSound() {
			checkSame(t, "CheckLog of "+shown(l), claim.CheckLog(l), api.ErrSum)
			empty++
			continue
		}
		sound++
		n, e := claim.Minutes(l)
		check(t, "Minutes of "+shown(l), n, e, len(w.drives[0]), api.OK)
		for minute := range n {
			got, e := spansAt(l, minute)
			checkSame(t, "the error of Spans", e, api.OK)
			checkSame(t, "the places of "+shown(l)+" at "+shown(minute), upTo(got.place), numbers(w.drives, minute))
			for kind, b := range got.values {
				checkSame(t, "the values of "+shown(l)+" at "+shown(minute), upTo(b), numbers(w.values[kind], minute))
			}
		}
	}
	if sound < 500 || empty < 500 {
		t.Errorf("%d logs were sound, %d not", sound, empty)
	}
}

// P11.4, P11.5, P11.6, P11.9, P11.10: verdicts, proofs and histories, against all histories.
func TestAllVerdicts(t *testing.T) {
	r := chance(2)
	verdicts := map[int]int{}
	for range 3000 {
		l := anyLog(r)
		w := worldOf(l)
		if !w.isSound() {
			continue
		}
		for range 6 {
			c := anyClaim(r, l)
			some, not := w.judge(l, c)
			want := api.VerdictOpen
			if !not {
				want = api.VerdictProven
			} else if !some {
				want = api.VerdictExcluded
			}
			verdicts[want]++
			got, e := claim.Verdict(l, c)
			check(t, "Verdict on "+shown(c)+" by "+shown(l), got, e, want, api.OK)
			checkFound(t, "With", l, c, claim.With, some, true)
			checkFound(t, "Without", l, c, claim.Without, not, false)
			proof, e := claim.Prove(l, c)
			if isProven := e == api.OK; isProven != !not || isProven && !isRight(l, c, proof) || !isProven && (e != api.ErrPlan || len(proof) > 0) {
				t.Errorf("Prove of %v by %v: %v, %d", c, l, proof, e)
			}
		}
	}
	for _, verdict := range []int{api.VerdictOpen, api.VerdictProven, api.VerdictExcluded} {
		if verdicts[verdict] < 500 {
			t.Errorf("the verdicts were %v", verdicts)
		}
	}
}

// checkFound checks a history that With or Without returns, if there has to be one.
func checkFound(
	t *testing.T, what string, l api.Log, c api.Claim, find func(api.Log, api.Claim) (api.History, api.Errno), isThere, isDamage bool,
) {
	t.Helper()
	h, e := find(l, c)
	if !isThere {
		check(t, what+" of "+shown(c)+" by "+shown(l), h, e, api.History{}, api.ErrPlan)
		return
	}
	if e != api.OK || !fits(l, h) || damages(l, c, h) != isDamage {
		t.Errorf("%s of %v by %v: %v, %d", what, c, l, h, e)
	}
}

// P11.5, P11.10: CheckProof accepts just the proofs that are right; if it accepts one, no history does not damage.
func TestAllProofs(t *testing.T) {
	r := chance(3)
	right, wrong := 0, 0
	for range 2500 {
		l := anyLog(r)
		w := worldOf(l)
		if !w.isSound() {
			continue
		}
		n := len(w.drives[0])
		for range 4 {
			c := anyClaim(r, l)
			_, not := w.judge(l, c)
			// All sets of steps.
			for bits := range 1 << (n - 1) {
				var proof []int
				for k := range n - 1 {
					if bits>>k&1 != 0 {
						proof = append(proof, k)
					}
				}
				want := api.ErrSum
				if isRight(l, c, proof) {
					want = api.OK
					right++
					if not {
						t.Errorf("%v is a right proof of %v by %v", proof, c, l)
					}
				} else {
					wrong++
				}
				checkSame(t, "CheckProof of "+shown(proof)+" for "+shown(c)+" by "+shown(l), claim.CheckProof(l, c, proof), want)
			}
		}
	}
	if right < 1000 || wrong < 1000 {
		t.Errorf("%d proofs were right, %d wrong", right, wrong)
	}
}

// P11.3: Fits and Damages, of histories that fit and of those that do not.
func TestAllThatFits(t *testing.T) {
	r := chance(4)
	fit, not := 0, 0
	for range 4000 {
		l := anyLog(r)
		w := worldOf(l)
		if !w.isSound() {
			continue
		}
		h := anyHistory(r, l)
		for range r.IntN(3) {
			minute := r.IntN(len(h.Places))
			*pick(r, &h.Places[minute], &h.Values[minute][r.IntN(4)]) += pick(r, -1, 1, -2, 2, pick(r, extremes...))
		}
		want := w.has(h)
		if want {
			fit++
		} else {
			not++
		}
		got, e := claim.Fits(l, h)
		check(t, "Fits of "+shown(h)+" to "+shown(l), got, e, want, api.OK)
		c := anyClaim(r, l)
		got, e = claim.Damages(l, c, h)
		check(t, "Damages of "+shown(h)+" by "+shown(c), got, e, damages(l, c, h), api.OK)
	}
	if fit < 300 || not < 300 {
		t.Errorf("%d histories fit, %d do not", fit, not)
	}
}
