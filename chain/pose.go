package chain

import (
	"iter"

	"gooseneck/api"
	"gooseneck/plane"
)

// placed is a vehicle where it is.
type placed struct {
	api.Vehicle
	api.Pose
}

// link is a unit where it is: its body goes straight from its front joint over the point that is pulled.
type link struct {
	api.Unit
	joint api.Point
	axle  api.Point
}

// CheckPose reports whether a pose is valid. (P3.3)
func CheckPose(v api.Vehicle, p api.Pose) api.Errno {
	if e := Check(v); e != api.OK {
		return e
	}
	if !(placed{v, p}).isValid() {
		return api.ErrRange
	}
	return api.OK
}

// Straight returns the pose in which all units stand on a line. (P3.3)
func Straight(v api.Vehicle, lead, behind api.Point) (api.Pose, api.Errno) {
	if e := Check(v); e != api.OK {
		return api.Pose{}, e
	}
	// Pull has the errors of both points: that one is not valid, and that they are the same.
	axle, e := plane.Pull(lead, behind, pulledLength(v.Units[0]))
	if e != api.OK {
		return api.Pose{}, e
	}
	axles, e := straightAxles(v, lead, axle)
	if e != api.OK {
		return api.Pose{}, e
	}
	return made(v, api.Pose{Lead: lead, Axles: axles})
}

// Joint returns the front joint of a unit, or the tail. (P3.4)
func Joint(v api.Vehicle, p api.Pose, i int) (api.Point, api.Errno) {
	if e := CheckPose(v, p); e != api.OK {
		return api.Point{}, e
	}
	if !isWithin(i, 0, len(v.Units)) {
		return api.Point{}, api.ErrRange
	}
	if i == len(v.Units) {
		return placed{v, p}.link(i - 1).rear()
	}
	return placed{v, p}.link(i).joint, api.OK
}

// Place returns a place of a unit. (P3.4)
func Place(v api.Vehicle, p api.Pose, i int, x, y int64) (api.Point, api.Errno) {
	if e := checkLink(v, p, i); e != api.OK {
		return api.Point{}, e
	}
	return placed{v, p}.link(i).place(x, y)
}

// Body returns the body of a unit. (P3.6)
func Body(v api.Vehicle, p api.Pose, i int) ([]api.Point, api.Errno) {
	if e := checkLink(v, p, i); e != api.OK {
		return nil, e
	}
	return placed{v, p}.link(i).body()
}

// LoadLine returns the line on which the load lies: its front and its rear. (P3.6)
func LoadLine(v api.Vehicle, p api.Pose) (api.Point, api.Point, api.Errno) {
	if e := CheckPose(v, p); e != api.OK {
		return api.Point{}, api.Point{}, e
	}
	front, e := placed{v, p}.loadFront()
	if e != api.OK {
		return api.Point{}, api.Point{}, e
	}
	rear, e := placed{v, p}.link(v.To).middle()
	if e != api.OK {
		return api.Point{}, api.Point{}, e
	}
	return front, rear, api.OK
}

// Folded reports whether a vehicle is folded. (P3.6)
func Folded(v api.Vehicle, p api.Pose) (bool, api.Errno) {
	if e := CheckPose(v, p); e != api.OK {
		return false, e
	}
	var ahead link
	for i, k := range (placed{v, p}).links() {
		if i > 0 && looksBack(ahead, k) {
			return true, api.OK
		}
		ahead = k
	}
	return false, api.OK
}

// checkLink returns the errors of a vehicle, a pose of it, and the number of a unit.
func checkLink(v api.Vehicle, p api.Pose, i int) api.Errno {
	if e := CheckPose(v, p); e != api.OK {
		return e
	}
	if !isUnit(v, i) {
		return api.ErrRange
	}
	return api.OK
}

// links yields the units with their joints. It ends with a unit whose rear joint cannot be found: without an error of
// that, as the last unit does not need one.
func (c placed) links() iter.Seq2[int, link] {
	return func(yield func(int, link) bool) {
		joint := c.Lead
		for i, u := range c.Units {
			k := link{u, joint, c.Axles[i]}
			if !yield(i, k) {
				return
			}
			var e api.Errno
			if joint, e = k.rear(); e != api.OK {
				return
			}
		}
	}
}

// link returns a unit where it is, if the pose is valid.
func (c placed) link(number int) link {
	for i, k := range c.links() {
		if i == number {
			return k
		}
	}
	return link{}
}

func (c placed) loadFront() (api.Point, api.Errno) {
	first := c.link(c.From)
	if c.From == c.To {
		return first.joint, api.OK
	}
	return first.middle()
}

// isValid reports whether the pose is one of the vehicle, which is valid.
func (c placed) isValid() bool {
	if len(c.Axles) != len(c.Units) {
		return false
	}
	found := 0
	for _, k := range c.links() {
		if plane.Check(k.joint) != api.OK || plane.Check(k.axle) != api.OK || k.joint == k.axle {
			return false
		}
		found++
	}
	return found == len(c.Units)
}

// made returns a pose whose points are computed. They may still be no pose: its joints are found from the lead on,
// and rounded on the way, wherever the points come from.
func made(v api.Vehicle, p api.Pose) (api.Pose, api.Errno) {
	if !(placed{v, p}).isValid() {
		return api.Pose{}, api.ErrZero
	}
	return p, api.OK
}

// straightAxles returns the points that are pulled in a straight pose, of which the first one is known. It needs the
// joints of all units but the last one.
func straightAxles(v api.Vehicle, lead, axle api.Point) ([]api.Point, api.Errno) {
	axles := []api.Point{axle}
	ahead := link{v.Units[0], lead, axle}
	for i, u := range v.Units[1:] {
		if i > 0 {
			joint, e := ahead.rear()
			if e != api.OK {
				return nil, e
			}
			ahead = link{v.Units[i], joint, axle}
		}
		var e api.Errno
		if axle, e = ahead.place(rearX(ahead.Unit)-pulledLength(u), 0); e != api.OK {
			return nil, e
		}
		axles = append(axles, axle)
	}
	return axles, api.OK
}

func (k link) place(x, y int64) (api.Point, api.Errno) { return plane.Place(k.axle, k.joint, x, y) }

func (k link) rear() (api.Point, api.Errno) { return k.place(rearX(k.Unit), 0) }

// middle returns the middle of the axles, which is behind the point that is pulled if they are steered by the joint.
func (k link) middle() (api.Point, api.Errno) {
	return k.place(pulledLength(k.Unit)-k.Length, 0)
}

func (k link) body() ([]api.Point, api.Errno) {
	front := pulledLength(k.Unit) + k.Front
	rear := pulledLength(k.Unit) - k.Length - k.Rear
	var corners []api.Point
	for _, at := range [...]api.Point{{X: front, Y: k.Width}, {X: front, Y: -k.Width}, {X: rear, Y: k.Width}, {X: rear, Y: -k.Width}} {
		corner, e := k.place(at.X, at.Y)
		if e != api.OK {
			return nil, e
		}
		corners = append(corners, corner)
	}
	return plane.Hull(corners)
}

// rearX returns how far ahead of the point that is pulled the rear joint of a unit is.
func rearX(u api.Unit) int64 { return pulledLength(u) - u.Length - u.Behind }

// looksBack reports whether a unit is turned by more than a right angle from the one behind it.
func looksBack(ahead, behind link) bool {
	h := api.Point{X: ahead.joint.X - ahead.axle.X, Y: ahead.joint.Y - ahead.axle.Y}
	a := api.Point{X: behind.joint.X - behind.axle.X, Y: behind.joint.Y - behind.axle.Y}
	return h.X*a.X+h.Y*a.Y < 0
}
