package claim

import "gooseneck/api"

// Prove returns a proof that a claim is proven. (P11.5)
func Prove(l api.Log, c api.Claim) ([]int, api.Errno) {
	x, e := judged(l, c)
	if e != api.OK {
		return nil, e
	}
	steps := x.forced(c)
	if _, isWay := x.wayPast(c, steps); isWay {
		return nil, api.ErrPlan
	}
	return steps, api.OK
}

// CheckProof reports whether a proof is right. (P11.5)
func CheckProof(l api.Log, c api.Claim, steps []int) api.Errno {
	x, e := judged(l, c)
	if e != api.OK {
		return e
	}
	if len(steps) > api.MaxTicks {
		return api.ErrMany
	}
	if !x.areForced(c, steps) {
		return api.ErrSum
	}
	if _, isWay := x.wayPast(c, steps); isWay {
		return api.ErrSum
	}
	return api.OK
}

// forced returns the steps within a claim in which its value is above its limit, whatever has happened.
func (x course) forced(c api.Claim) []int {
	var steps []int
	for step := range x.within(c) {
		if x.isForced(c, step) {
			steps = append(steps, step)
		}
	}
	return steps
}

func (x course) isForced(c api.Claim, step int) bool { return isAbove(c, step, x.values[c.Kind].least) }

// areForced reports whether a list is some of the forced steps, in their order.
func (x course) areForced(c api.Claim, steps []int) bool {
	before := -1
	for _, step := range steps {
		if step <= before || !x.isStep(c, step) || !x.isForced(c, step) {
			return false
		}
		before = step
	}
	return true
}

// wayPast returns a drive that is at the place of a claim in none of some steps, and whether there is one.
func (x course) wayPast(c api.Claim, steps []int) (drive, bool) {
	for i := range len(steps) + 1 {
		if ahead, past := steps[:i], steps[i:]; !x.isBlocked(c, ahead, past) {
			return drive{x.place, minuteBehind(ahead)}, true
		}
	}
	return drive{}, false
}

// isBlocked reports whether no drive is ahead of the place of a claim in some steps, and past it in those that come then.
func (x course) isBlocked(c api.Claim, ahead, past []int) bool {
	held := minuteBehind(ahead)
	return len(ahead) > 0 && x.place.least(held) >= c.From ||
		len(past) > 0 && (x.place.most(past[0]) <= c.To || past[0] == held)
}

// minuteBehind returns the minute behind the last one of some steps, -1 if there are none.
func minuteBehind(steps []int) int {
	if len(steps) == 0 {
		return -1
	}
	return steps[len(steps)-1] + 1
}
