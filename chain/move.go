package chain

import (
	"slices"

	"gooseneck/api"
	"gooseneck/plane"
)

const (
	// steerWhole is what a manual steering is a part of: the half of its turn has it as the tangent.
	steerWhole = 400

	// leastBehind is the least way from its axles to its rear joint with which a unit can be backed.
	leastBehind = 100
)

// Step returns the pose behind a step forward. (P3.5)
func Step(v api.Vehicle, p api.Pose, lead api.Point, steer []int) (api.Pose, api.Errno) {
	if e := CheckPose(v, p); e != api.OK {
		return api.Pose{}, e
	}
	if e := plane.Check(lead); e != api.OK {
		return api.Pose{}, e
	}
	return placed{v, p}.forward(lead, steer)
}

// Back returns the pose behind a step back. (P3.5)
func Back(v api.Vehicle, p api.Pose, tail api.Point, steer []int) (api.Pose, api.Errno) {
	if e := CheckPose(v, p); e != api.OK {
		return api.Pose{}, e
	}
	if e := plane.Check(tail); e != api.OK {
		return api.Pose{}, e
	}
	for _, u := range v.Units {
		if u.Behind < leastBehind || u.Steer != 0 {
			return api.Pose{}, api.ErrState
		}
	}
	return placed{v, p}.back(tail, steer)
}

// Follow returns the poses on a guide. (P3.7)
func Follow(v api.Vehicle, p api.Pose, guide []api.Point, s, d int64, steer [][]int) ([]api.Pose, api.Errno) {
	if e := CheckPose(v, p); e != api.OK {
		return nil, e
	}
	leads, e := leadsAlong(guide, s, d)
	if e != api.OK {
		return nil, e
	}
	if len(steer) == 0 {
		steer = unsteered(len(v.Units), len(leads))
	}
	if len(steer) != len(leads) {
		return nil, api.ErrEqual
	}
	c := placed{v, p}
	var poses []api.Pose
	for k, lead := range leads {
		if c.Pose, e = c.forward(lead, steer[k]); e != api.OK {
			return nil, e
		}
		poses = append(poses, c.Pose)
	}
	return poses, api.OK
}

// leadsAlong returns the points of a guide from s on, by steps of d, and its end.
func leadsAlong(guide []api.Point, s, d int64) ([]api.Point, api.Errno) {
	end, e := plane.Length(guide)
	if e != api.OK {
		return nil, e
	}
	if !isWithin(d, 1, api.MaxPlace) || !isWithin(s, 0, end) {
		return nil, api.ErrRange
	}
	// Those before the end are counted first: there may be far too many of them.
	before := (end - s + d - 1) / d
	if before+1 > api.MaxPoses {
		return nil, api.ErrMany
	}
	var leads []api.Point
	for k := range before + 1 {
		lead, _, e := plane.Along(guide, min(s+k*d, end))
		if e != api.OK {
			return nil, e
		}
		leads = append(leads, lead)
	}
	return leads, api.OK
}

// unsteered returns the steering of steps in which all of it is 0. They share one list, which is only read.
func unsteered(units, steps int) [][]int {
	return slices.Repeat([][]int{make([]int, units)}, steps)
}

// forward goes from the first unit to the last one: each of them is pulled by its new front joint.
func (c placed) forward(lead api.Point, steer []int) (api.Pose, api.Errno) {
	if e := checkSteering(c.Vehicle, steer); e != api.OK {
		return api.Pose{}, e
	}
	next := api.Pose{Lead: lead}
	joint := lead
	for i, u := range c.Units {
		axle, e := pull(joint, c.Axles[i], pulledLength(u), steer[i])
		if e != api.OK {
			return api.Pose{}, e
		}
		next.Axles = append(next.Axles, axle)
		if i == len(c.Units)-1 {
			break
		}
		if joint, e = (link{u, joint, axle}).rear(); e != api.OK {
			return api.Pose{}, e
		}
	}
	return made(c.Vehicle, next)
}

// back goes from the last unit to the first one: each of them is pulled by its new rear joint.
func (c placed) back(tail api.Point, steer []int) (api.Pose, api.Errno) {
	if e := checkSteering(c.Vehicle, steer); e != api.OK {
		return api.Pose{}, e
	}
	axles := make([]api.Point, len(c.Units))
	joint := tail
	for i, u := range slices.Backward(c.Units) {
		axle, e := pull(joint, c.Axles[i], u.Behind, steer[i])
		if e != api.OK {
			return api.Pose{}, e
		}
		axles[i] = axle
		if joint, e = plane.Place(axle, joint, -u.Length, 0); e != api.OK {
			return api.Pose{}, e
		}
	}
	return made(c.Vehicle, api.Pose{Lead: joint, Axles: axles})
}

// checkSteering returns the errors of steering.
func checkSteering(v api.Vehicle, steer []int) api.Errno {
	if len(steer) != len(v.Units) {
		return api.ErrEqual
	}
	for i, u := range v.Units {
		if !isWithin(steer[i], -u.Most, u.Most) {
			return api.ErrRange
		}
	}
	return api.OK
}

// pull returns where a point comes to that is pulled to a joint by a bar, and is then steered by hand.
func pull(joint, axle api.Point, bar int64, steer int) (api.Point, api.Errno) {
	pulled, e := plane.Pull(joint, axle, bar)
	if e != api.OK || steer == 0 {
		return pulled, e
	}
	turn, e := plane.Half(int64(steer), steerWhole)
	if e != api.OK {
		return api.Point{}, e
	}
	return plane.Rotate(pulled, joint, turn)
}
