package statics

import (
	"gooseneck/api"
	"gooseneck/plane"
)

const (
	// maxSlope bounds the numbers of a slope, and of an acceleration.
	maxSlope = 1000

	// maxWay bounds the numbers of a step of a tilt.
	maxWay = 10
)

// Foot returns the foot of a centre. (P4.4)
func Foot(c [3]int64, s, a api.Slope) (api.Point, api.Errno) {
	if e := checkLeaning(c, s, a); e != api.OK {
		return api.Point{}, e
	}
	return foot(c, s, a), api.OK
}

// Blown returns the foot of a centre with wind. (P4.4)
func Blown(c [3]int64, s, a, wind api.Slope, height, mass int64) (api.Point, api.Errno) {
	if e := checkLeaning(c, s, a); e != api.OK {
		return api.Point{}, e
	}
	if !isUpTo(wind, api.MaxWind) || !isWithin(height, 0, api.MaxSide) {
		return api.Point{}, api.ErrRange
	}
	if e := checkMass(mass); e != api.OK {
		return api.Point{}, e
	}
	at := foot(c, s, a)
	return api.Point{X: at.X + nearest(wind.X*height, mass), Y: at.Y + nearest(wind.Y*height, mass)}, api.OK
}

// Tilt returns how far a platform can be tilted. (P4.5)
func Tilt(p []api.Support, c [3]int64, way api.Slope) (int64, api.Errno) {
	if e := Check(p); e != api.OK {
		return 0, e
	}
	if e := checkCentre(c); e != api.OK {
		return 0, e
	}
	if !isUpTo(way, maxWay) || way == (api.Slope{}) {
		return 0, api.ErrArg
	}
	if n := tilt(sums(p), c, way); n >= 0 {
		return n, api.OK
	}
	return 0, api.ErrTip
}

// tilt returns the last step at which a platform does not tip, or -1 if it does so without a slope.
func tilt(rows [3][3]int64, c [3]int64, way api.Slope) int64 {
	last := int64(-1)
	for k := range int64(api.MaxLean + 1) {
		slope := api.Slope{X: k * way.X, Y: k * way.Y}
		if !isUpTo(slope, maxSlope) {
			break
		}
		if l, _ := parts(rows, foot(c, slope, api.Slope{})); lifted(l) >= 0 {
			break
		}
		last = k
	}
	return last
}

// checkLeaning returns the errors of a centre, of a slope, and of an acceleration.
func checkLeaning(c [3]int64, s, a api.Slope) api.Errno {
	if e := checkCentre(c); e != api.OK {
		return e
	}
	if !isUpTo(s, maxSlope) || !isUpTo(a, maxSlope) {
		return api.ErrRange
	}
	return api.OK
}

func checkCentre(c [3]int64) api.Errno {
	for axis := range 3 {
		if !isWithin(c[axis], -api.MaxSide, api.MaxSide) {
			return api.ErrRange
		}
	}
	return api.OK
}

// isUpTo reports whether both numbers have amounts of at most most.
func isUpTo(s api.Slope, most int64) bool {
	return isWithin(s.X, -most, most) && isWithin(s.Y, -most, most)
}

func foot(c [3]int64, s, a api.Slope) api.Point {
	return api.Point{X: c[0] + nearest(c[2]*(s.X+a.X), api.Whole), Y: c[1] + nearest(c[2]*(s.Y+a.Y), api.Whole)}
}

// nearest returns the nearest whole number to n / d, for numbers that are far from the limits of plane.Nearest.
func nearest(n, d int64) int64 {
	q, _ := plane.Nearest(n, d)
	return q
}
