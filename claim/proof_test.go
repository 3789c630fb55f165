package claim_test

import (
	"math"
	"testing"

	"gooseneck/api"
	"gooseneck/claim"
)

// P11.5: proofs of the chapter's first claim: the value is above 4 in all steps.
func TestCheckProof(t *testing.T) {
	for _, x := range []struct {
		what  string
		c     api.Claim
		steps []int
		want  api.Errno
	}{
		{"all steps", above(4), []int{0, 1, 2, 3}, api.OK},
		{"no steps", above(4), nil, api.ErrSum},
		{"without the first step", above(4), []int{1, 2, 3}, api.ErrSum},
		{"without the last step", above(4), []int{0, 1, 2}, api.ErrSum},
		{"without a step between", above(4), []int{0, 1, 3}, api.ErrSum},
		{"not in order", above(4), []int{0, 2, 1, 3}, api.ErrSum},
		{"one twice", above(4), []int{0, 1, 1, 2, 3}, api.ErrSum},
		{"the last one twice", above(4), []int{0, 1, 2, 3, 3}, api.ErrSum},
		{"below 0", above(4), []int{-1, 0, 1, 2, 3}, api.ErrSum},
		{"a step too many", above(4), []int{0, 1, 2, 3, 4}, api.ErrSum},
		{"the least and the greatest", above(4), []int{math.MinInt, 0, 1, 2, 3, math.MaxInt}, api.ErrSum},
		{"the greatest", above(4), []int{0, 1, 2, 3, math.MaxInt}, api.ErrSum},
		{"not within the claim", within(above(4), 100, 103), []int{0, 1, 2, 3}, api.ErrSum},
		{"not within the claim from its beginning", within(above(4), 101, 104), []int{0, 1, 2, 3}, api.ErrSum},
		{"just within the claim", within(above(4), 100, 104), []int{0, 1, 2, 3}, api.OK},
		{"not above the limit", above(5), []int{0, 1, 2, 3}, api.ErrSum},
		{"another value", api.Claim{From: 40, To: 50, Kind: 1, End: 1000}, []int{0, 1, 2, 3}, api.ErrSum},
		{"another value, above less", api.Claim{From: 40, To: 50, Kind: 3, Limit: -1, End: 1000}, []int{0, 1, 2, 3}, api.OK},
		// The place has already to be reached, or not to be left.
		{"at its first place", at(above(4), -10, 10), []int{0}, api.OK},
		{"at its first place, up to 9", at(above(4), -10, 9), []int{0}, api.ErrSum},
		{"at its last place", at(above(8), 90, 100), []int{3}, api.OK},
		{"at its last place, from 91 on", at(above(8), 91, 100), []int{3}, api.ErrSum},
		{"at all places", at(above(4), 0, 100), []int{3}, api.OK},
		{"at all places, in two steps", at(above(4), 0, 100), []int{1, 3}, api.OK},
		{"at none", at(above(4), 200, 300), []int{0, 1, 2, 3}, api.ErrSum},
	} {
		checkSame(t, x.what, claim.CheckProof(example(), x.c, x.steps), x.want)
		if isRight(example(), x.c, x.steps) != (x.want == api.OK) {
			t.Errorf("%s: the oracle says something else", x.what)
		}
	}
}

// P11.5: a step that does not follow at once is no gap if the convoy has to be ahead until then, or cannot be any more.
func TestProofWithGaps(t *testing.T) {
	c := at(wide(4), 40, 50)
	for _, x := range []struct {
		what               string
		at                 api.Band
		without1, without2 api.Errno
	}{
		{"it is ahead, or there", band(0, 50), api.OK, api.ErrSum},
		{"it can be past", band(0, 51), api.ErrSum, api.ErrSum},
		{"it is there, or past", band(40, 100), api.ErrSum, api.OK},
		{"it can be ahead", band(39, 100), api.ErrSum, api.ErrSum},
		{"it is there", band(40, 50), api.OK, api.OK},
	} {
		l := logOf(0, read(0, band(0, 0), band(5, 5)), read(2, x.at, band(5, 5)), read(4, band(100, 100), band(5, 5)))
		checkSame(t, x.what+": 0 2 3", claim.CheckProof(l, c, []int{0, 2, 3}), x.without1)
		checkSame(t, x.what+": 0 1 3", claim.CheckProof(l, c, []int{0, 1, 3}), x.without2)
		checkSame(t, x.what+": 0 1 2 3", claim.CheckProof(l, c, []int{0, 1, 2, 3}), api.OK)
		proof, e := claim.Prove(l, c)
		if e != api.OK || claim.CheckProof(l, c, proof) != api.OK {
			t.Errorf("%s: Prove: %v, %d", x.what, proof, e)
		}
	}
}

// P11.5: a proof has at most 2000 steps, and as many may be needed.
func TestLongProofs(t *testing.T) {
	l := logOf(0, read(9, band(0, 0), band(5, 5)), read(2009, band(100, 100), band(5, 5)))
	c := at(wide(4), 40, 50)
	proof, e := claim.Prove(l, c)
	check(t, "Prove", len(proof), e, 2000, api.OK)
	checkSame(t, "CheckProof", claim.CheckProof(l, c, proof), api.OK)
	for i := range proof {
		proof[i] = i
	}
	checkSame(t, "CheckProof of all steps", claim.CheckProof(l, c, proof), api.OK)
	checkSame(t, "CheckProof of a step less", claim.CheckProof(l, c, proof[:1999]), api.ErrSum)
	checkSame(t, "CheckProof of a step more", claim.CheckProof(l, c, append(proof, 2000)), api.ErrMany)
	checkSame(t, "CheckProof of steps that are not there", claim.CheckProof(example(), above(4), make([]int, 2000)), api.ErrSum)
	checkSame(t, "CheckProof of more of them", claim.CheckProof(example(), above(4), make([]int, 2001)), api.ErrMany)
}

// P11.5: there is a proof just if the claim is proven.
func TestProveErrors(t *testing.T) {
	for limit, want := range map[int64]api.Errno{4: api.OK, 5: api.ErrPlan, 6: api.ErrPlan, 11: api.ErrPlan} {
		proof, e := claim.Prove(example(), above(limit))
		if e != want || (len(proof) > 0) != (e == api.OK) {
			t.Errorf("Prove above %d: %v, %d, want %d", limit, proof, e, want)
		}
	}
}
