package load

import (
	"slices"

	"gooseneck/api"
)

// maxDirection bounds the numbers of a direction.
const maxDirection = 1 << 30

// Hold reports whether lashings hold a load; if not, it returns a direction that proves it. (P2.10)
func Hold(l api.Load, x []api.Lash, s api.Shake) (api.Point, api.Errno) {
	if e := checkShaken(l, x, s); e != api.OK {
		return api.Point{}, e
	}
	return hold(l, x, s)
}

// Slips reports whether a direction proves that a load slips. (P2.10)
func Slips(l api.Load, x []api.Lash, s api.Shake, n api.Point) api.Errno {
	if e := checkShaken(l, x, s); e != api.OK {
		return e
	}
	if !isDirection(n) {
		return api.ErrRange
	}
	if !proves(reach(l, x, s), need(l, s), n) {
		return api.ErrSum
	}
	return api.OK
}

// Least returns lashings of which none can be left out. (P2.11)
func Least(l api.Load, x []api.Lash, s []api.Shake) ([]int, api.Errno) {
	if e := checkLashes(l, x); e != api.OK {
		return nil, e
	}
	if len(s) > api.MaxShakes {
		return nil, api.ErrMany
	}
	for _, shake := range s {
		if e := checkShake(shake); e != api.OK {
			return nil, e
		}
	}
	if !holdAll(l, x, s) {
		return nil, api.ErrSlip
	}
	return least(l, x, s), api.OK
}

// hold looks for the first direction of the reach that proves that the load slips. If none of them does, the need is on
// the inner side of all sides of the reach: so the load is held just if there is no such direction.
func hold(l api.Load, x []api.Lash, s api.Shake) (api.Point, api.Errno) {
	can, must := reach(l, x, s), need(l, s)
	for _, n := range directions(can) {
		if proves(can, must, n) {
			return n, api.ErrSlip
		}
	}
	return api.Point{}, api.OK
}

func holdAll(l api.Load, x []api.Lash, s []api.Shake) bool {
	for _, shake := range s {
		if _, e := hold(l, x, shake); e != api.OK {
			return false
		}
	}
	return true
}

// least leaves out lashings, from the last one to the first one. All that come ahead of the lashing i are still there
// when it is tried, so it is at i among the others that are left.
func least(l api.Load, x []api.Lash, s []api.Shake) []int {
	var left []int
	for i := range x {
		left = append(left, i)
	}
	others := x
	for i := len(x) - 1; i >= 0; i-- {
		without := slices.Concat(others[:i], others[i+1:])
		if holdAll(l, without, s) {
			others, left = without, slices.Delete(left, i, i+1)
		}
	}
	return left
}

func isDirection(n api.Point) bool {
	return n != (api.Point{}) && isWithin(n.X, -maxDirection, maxDirection) && isWithin(n.Y, -maxDirection, maxDirection)
}

// proves reports whether the need lies farther in a direction than all that can be reached.
func proves(reach []api.Point, need, n api.Point) bool {
	for _, p := range reach {
		if dot(p, n) >= dot(need, n) {
			return false
		}
	}
	return true
}
