package claim_test

import (
	"reflect"
	"slices"
	"testing"

	"gooseneck/api"
	"gooseneck/claim"
)

// answer is what a call returns.
type answer struct {
	value any
	err   api.Errno
}

func of[T any](value T, e api.Errno) answer { return answer{value, e} }

// zero reports whether the result beside the error is a zero value.
func (a answer) zero() bool { return shown(a.value) == shown(reflect.Zero(reflect.TypeOf(a.value))) }

// hand is arguments for any function of the package.
type hand struct {
	l      api.Log
	c      api.Claim
	minute int
	h      api.History
	proof  []int
	claims []api.Claim
	part   int64
	limit  int64
}

func (h hand) clone() hand {
	h.l, h.h = cloneLog(h.l), cloneHistory(h.h)
	h.proof, h.claims = slices.Clone(h.proof), slices.Clone(h.claims)
	return h
}

// calls are the functions of the package.
func calls() map[string]func(h hand) answer {
	return map[string]func(h hand) answer{
		"CheckLog":   func(h hand) answer { return of(0, claim.CheckLog(h.l)) },
		"CheckClaim": func(h hand) answer { return of(0, claim.CheckClaim(h.c)) },
		"Minutes":    func(h hand) answer { return of(claim.Minutes(h.l)) },
		"Spans":      func(h hand) answer { return of(spansAt(h.l, h.minute)) },
		"Fits":       func(h hand) answer { return of(claim.Fits(h.l, h.h)) },
		"Damages":    func(h hand) answer { return of(claim.Damages(h.l, h.c, h.h)) },
		"Verdict":    func(h hand) answer { return of(claim.Verdict(h.l, h.c)) },
		"Prove":      func(h hand) answer { return of(claim.Prove(h.l, h.c)) },
		"CheckProof": func(h hand) answer { return of(0, claim.CheckProof(h.l, h.c, h.proof)) },
		"With":       func(h hand) answer { return of(claim.With(h.l, h.c)) },
		"Without":    func(h hand) answer { return of(claim.Without(h.l, h.c)) },
		"Settle":     func(h hand) answer { return of(claim.Settle(h.l, h.claims, h.part, h.limit)) },
	}
}

// P1, R2, R5, R6, R10: each function ends and does not panic for all arguments; it changes none of them, returns zero values
// with an error, and the same if it is called again.
func TestAnyArguments(t *testing.T) {
	r := chance(10)
	fine, wrong := map[string]int{}, map[string]int{}
	for range 4000 {
		l := longLog(r, 12, pick(r, 2, 5, 64))
		n, _ := claim.Minutes(l)
		h := hand{l: l, c: longClaim(r, l), minute: r.IntN(n), h: anyHistory(r, l), part: from(r, 0, 1000), limit: from(r, 0, 200)}
		h.proof, _ = claim.Prove(l, h.c)
		for range r.IntN(3) {
			h.claims = append(h.claims, worth(longClaim(r, l), from(r, 0, 100)))
		}
		k, last := r.IntN(n), len(l.Readings)-1
		numbers := []*int64{
			&l.Readings[0].At, &l.Readings[last].At, &l.Readings[0].Place.Lo, &l.Readings[last].Place.Hi, &l.Readings[last].Values[3].Lo,
			&l.Drift[0], &h.c.From, &h.c.To, &h.c.Limit, &h.c.Begin, &h.c.End, &h.c.Amount, &h.h.Places[k], &h.h.Values[k][2],
			&h.part, &h.limit,
		}
		for range max(0, r.IntN(5)-2) {
			*pick(r, numbers...) = pick(r, extremes...)
		}
		h.l = l
		switch r.IntN(20) {
		case 0:
			h.c.Kind = int(pick(r, extremes...))
		case 1:
			h.minute = int(pick(r, extremes...))
		case 2:
			h.h.Places = h.h.Places[:k]
		case 3:
			h.proof = append(h.proof, int(pick(r, extremes...)))
		case 4:
			h.claims = append(h.claims, api.Claim{Kind: int(pick(r, extremes...))})
		}
		for what, call := range calls() {
			before := h.clone()
			a := call(h)
			checkSame(t, "the arguments behind "+what, h, before)
			if a.err == api.OK {
				fine[what]++
			} else {
				wrong[what]++
				if !a.zero() {
					t.Errorf("%s of %v: %v", what, h, a)
				}
			}
			checkSame(t, what+" once more", call(before), a)
		}
	}
	for what := range calls() {
		if fine[what] < 300 || wrong[what] < 300 {
			t.Errorf("%s has ended %d times without an error, and %d times with one", what, fine[what], wrong[what])
		}
	}
}

// R3: a nil list and an empty one are the same.
func TestNilIsEmpty(t *testing.T) {
	none := hand{l: example(), c: above(4)}
	for _, x := range []struct {
		what        string
		none, empty func(h *hand)
	}{
		{"readings", func(h *hand) { h.l.Readings = nil }, func(h *hand) { h.l.Readings = []api.Reading{} }},
		{"places", func(h *hand) { h.h.Places = nil }, func(h *hand) { h.h.Places = []int64{} }},
		{"values", func(h *hand) { h.h.Values = nil }, func(h *hand) { h.h.Values = [][4]int64{} }},
		{"steps", func(h *hand) { h.proof = nil }, func(h *hand) { h.proof = []int{} }},
		{"claims", func(h *hand) { h.claims = nil }, func(h *hand) { h.claims = []api.Claim{} }},
	} {
		p, q := none.clone(), none.clone()
		x.none(&p)
		x.empty(&q)
		for name, call := range calls() {
			checkSame(t, name+" of empty "+x.what, call(q), call(p))
		}
	}
}

// R5: no list of a result shares memory with an argument, or with another one, also behind its end.
func TestResultsAreNewMemory(t *testing.T) {
	h := hand{l: example(), c: above(4), claims: []api.Claim{above(4), above(6)}, part: 500, limit: 100}
	open := h.clone()
	open.c = above(6)
	rich := h.clone()
	rich.limit = 1000
	for _, x := range []struct {
		what string
		h    hand
	}{{"Prove", h}, {"With", h}, {"Without", open}, {"Settle", h}, {"Settle", rich}} {
		call := calls()[x.what]
		one, other := call(x.h), call(x.h)
		like, before := shown(other), shown(x.h)
		if one.err != api.OK {
			t.Errorf("%s: %d", x.what, one.err)
		}
		spoil(one.value)
		checkSame(t, "another result of "+x.what, other, like)
		checkSame(t, "the arguments of "+x.what, x.h, before)
		checkSame(t, x.what+" once more", call(x.h), like)
	}
}

// spoil changes all that a result refers to, with what is behind its end.
func spoil(value any) {
	switch l := value.(type) {
	case []int:
		for i := range l[:cap(l)] {
			l[:cap(l)][i] = -7
		}
	case []int64:
		for i := range l[:cap(l)] {
			l[:cap(l)][i] = -7
		}
	case api.History:
		spoil(l.Places)
		for i := range l.Values[:cap(l.Values)] {
			l.Values[:cap(l.Values)][i] = [4]int64{-7, -7, -7, -7}
		}
	}
}
