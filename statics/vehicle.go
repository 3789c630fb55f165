package statics

import (
	"gooseneck/api"
	"gooseneck/chain"
)

// Lever returns what both ends of a line carry. (P4.8)
func Lever(mass, a, b, x int64) (int64, int64, api.Errno) {
	if e := checkMass(mass); e != api.OK {
		return 0, 0, e
	}
	for _, n := range [...]int64{a, b, x} {
		if !isWithin(n, -api.MaxPlace, api.MaxPlace) {
			return 0, 0, api.ErrRange
		}
	}
	if a >= b {
		return 0, 0, api.ErrZero
	}
	if !isWithin(x, a, b) {
		return 0, 0, api.ErrTip
	}
	front, rear := lever(mass, b-a, x-a)
	return front, rear, api.OK
}

// Axles returns what each axle of each unit carries. (P4.8)
func Axles(v api.Vehicle, mass, length, u int64) ([]int64, api.Errno) {
	if e := chain.Check(v); e != api.OK {
		return nil, e
	}
	if e := checkMass(mass); e != api.OK {
		return nil, e
	}
	if !isWithin(length, 1, api.MaxPlace) {
		return nil, api.ErrRange
	}
	if !isWithin(u, 0, length) {
		return nil, api.ErrTip
	}
	var loads []int64
	for i, carried := range onUnits(v, mass, length, u) {
		unit := v.Units[i]
		load := fraction{unit.Mass + carried, int64(len(unit.Axles))}.up(1)
		for _, axle := range unit.Axles {
			if load > axle.Limit {
				return nil, api.ErrLimit
			}
		}
		loads = append(loads, load)
	}
	return loads, api.OK
}

// onUnits returns what each unit carries of a mass.
func onUnits(v api.Vehicle, mass, length, u int64) []int64 {
	carried := make([]int64, len(v.Units))
	if v.From == v.To {
		carried[v.From] = mass
	} else {
		carried[v.From], carried[v.To] = lever(mass, length, u)
	}
	return carried
}

// lever returns what the front and the rear of a line of a length carry of a mass that is so far behind its front.
func lever(mass, length, behind int64) (int64, int64) {
	carried := fraction{mass, length}.up
	return carried(length - behind), carried(behind)
}
