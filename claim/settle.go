package claim

import "gooseneck/api"

// maxCap bounds what can be paid for all claims together.
const maxCap = 1 << 40

// Settle returns what claims are paid. (P11.7)
func Settle(l api.Log, claims []api.Claim, part, limit int64) ([]int64, api.Errno) {
	x, e := courseOf(l)
	if e != api.OK {
		return nil, e
	}
	if len(claims) > api.MaxClaims {
		return nil, api.ErrMany
	}
	isClaim := func(c api.Claim) bool { return CheckClaim(c) == api.OK }
	if !areAll(claims, isClaim) || !isWithin(part, 0, api.Whole) || !isWithin(limit, 0, maxCap) {
		return nil, api.ErrArg
	}
	var dues []int64
	for _, c := range claims {
		dues = append(dues, x.due(c, part))
	}
	return pay(dues, limit), api.OK
}

// due returns the sum that is due for a claim.
func (x course) due(c api.Claim, part int64) int64 {
	switch x.verdict(c) {
	case api.VerdictProven:
		return c.Amount
	case api.VerdictOpen:
		return c.Amount * part / api.Whole
	}
	return 0
}

// pay returns what is paid of what is due.
func pay(dues []int64, limit int64) []int64 {
	var sum int64
	for _, due := range dues {
		sum += due
	}
	if sum <= limit {
		return dues
	}
	paid := make([]int64, len(dues))
	left := limit
	for i, due := range dues {
		paid[i] = due * limit / sum
		left -= paid[i]
	}
	// What is left is what was rounded away, and less than 1 for each one that gets less than is due: going through them once
	// pays all of it.
	for i := range len(paid) {
		if left > 0 && paid[i] < dues[i] {
			paid[i]++
			left--
		}
	}
	return paid
}
