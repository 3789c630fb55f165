package sweep

import (
	"slices"

	"gooseneck/api"
	"gooseneck/chain"
	"gooseneck/plane"
)

// body is what the places of a section are counted from: a unit, or the load line.
type body struct {
	axle  api.Point
	hitch api.Point
}

// Corners returns the corners of a section. (P5.2)
func Corners(r api.Rig, p api.Pose, i int) ([]api.Point, api.Errno) {
	if e := checkPlaced(r, i, p); e != api.OK {
		return nil, e
	}
	return corners(r, p, i)
}

// Swept returns the hull that a section sweeps. (P5.2)
func Swept(r api.Rig, a, b api.Pose, i int) ([]api.Point, api.Errno) {
	if e := checkPlaced(r, i, a, b); e != api.OK {
		return nil, e
	}
	before, e := corners(r, a, i)
	if e != api.OK {
		return nil, e
	}
	behind, e := corners(r, b, i)
	if e != api.OK {
		return nil, e
	}
	return plane.Hull(append(before, behind...))
}

// checkPlaced returns the errors of a rig, of the number of a section, and of poses.
func checkPlaced(r api.Rig, i int, poses ...api.Pose) api.Errno {
	if e := checkSection(r, i); e != api.OK {
		return e
	}
	return checkPoses(r.Vehicle, poses)
}

func checkPoses(v api.Vehicle, poses []api.Pose) api.Errno {
	for _, p := range poses {
		if chain.CheckPose(v, p) != api.OK {
			return api.ErrRange
		}
	}
	return api.OK
}

// corners returns the corners of a section that is there, in a pose that is valid.
func corners(r api.Rig, p api.Pose, i int) ([]api.Point, api.Errno) {
	b, e := bodyOf(r.Vehicle, p, r.Sections[i].On)
	if e != api.OK {
		return nil, e
	}
	return b.places(onBody(r, i))
}

func bodyOf(v api.Vehicle, p api.Pose, on int) (body, api.Errno) {
	if on == onLine {
		front, rear, e := chain.LoadLine(v, p)
		return body{axle: rear, hitch: front}, e
	}
	joint, e := chain.Joint(v, p, on)
	return body{axle: p.Axles[on], hitch: joint}, e
}

func (b body) places(l []api.Point) ([]api.Point, api.Errno) {
	places := make([]api.Point, 0, len(l))
	for _, at := range l {
		p, e := plane.Place(b.axle, b.hitch, at.X, at.Y)
		if e != api.OK {
			return nil, e
		}
		places = append(places, p)
	}
	return places, api.OK
}

// onBody returns the corners of a section in places of its body, which do not depend on the pose.
func onBody(r api.Rig, i int) []api.Point {
	s := r.Sections[i]
	l := slices.Clone(s.Hull)
	if s.On != onLine {
		return l
	}
	for k, at := range l {
		// Coordinates up to MaxSize stay far within the place, so there are no errors.
		turned, _ := plane.Rotate(at, api.Point{}, r.Turn)
		l[k] = api.Point{X: turned.X + r.Shift.X, Y: turned.Y + r.Shift.Y}
	}
	return l
}
