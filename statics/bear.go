package statics

import (
	"slices"

	"gooseneck/api"
	"gooseneck/load"
)

// Shares returns what each axle of each group carries. (P4.2)
func Shares(p []api.Support, mass int64, at api.Point) ([3]int64, api.Errno) {
	if e := checkBorne(p, mass, at); e != api.OK {
		return [3]int64{}, e
	}
	l, whole := parts(sums(p), at)
	if lifted(l) >= 0 {
		return [3]int64{}, api.ErrTip
	}
	carried := fraction{mass, whole}.up
	for group := range 3 {
		l[group] = carried(l[group])
	}
	for _, s := range p {
		// A limit is whole: what is rounded up is above it just if the exact load is.
		if l[s.Group] > s.Limit {
			return [3]int64{}, api.ErrLimit
		}
	}
	return l, api.OK
}

// Tips returns a group that proves that a platform tips. (P4.3)
func Tips(p []api.Support, at api.Point) (int, api.Errno) {
	if e := checkAt(p, at); e != api.OK {
		return 0, e
	}
	l, _ := parts(sums(p), at)
	if group := lifted(l); group >= 0 {
		return group, api.OK
	}
	return 0, api.ErrNone
}

// Stands returns what each axle of each group carries of a load. (P4.9)
func Stands(p []api.Support, l api.Load, s, a api.Slope) ([3]int64, api.Errno) {
	if e := Check(p); e != api.OK {
		return [3]int64{}, e
	}
	centre, e := load.Centre(l)
	if e != api.OK {
		return [3]int64{}, e
	}
	mass, _ := load.Mass(l) // it has no other errors than Centre
	at, e := Foot(centre, s, a)
	if e != api.OK {
		return [3]int64{}, e
	}
	return Shares(p, mass, at)
}

// checkBorne returns the errors of a platform, of a mass, and of the point at which its weight acts.
func checkBorne(p []api.Support, mass int64, at api.Point) api.Errno {
	if e := Check(p); e != api.OK {
		return e
	}
	if e := checkMass(mass); e != api.OK {
		return e
	}
	return checkPoint(at)
}

// lifted returns the first group whose part is below 0, or -1: the others would have to pull it down.
func lifted(parts [3]int64) int {
	return slices.IndexFunc(parts[:], func(part int64) bool { return part < 0 })
}
