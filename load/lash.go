package load

import (
	"gooseneck/api"
	"gooseneck/plane"
)

// Pull returns the pull of a lashing. (P2.8)
func Pull(l api.Load, x api.Lash) ([3]int64, api.Errno) {
	if e := checkLashes(l, []api.Lash{x}); e != api.OK {
		return [3]int64{}, e
	}
	return pull(l, x), api.OK
}

// Reach returns the reach of a load with lashings: what the deck and they can do to hold it. (P2.9)
func Reach(l api.Load, x []api.Lash, s api.Shake) ([]api.Point, api.Errno) {
	if e := checkShaken(l, x, s); e != api.OK {
		return nil, e
	}
	return reach(l, x, s), api.OK
}

// Need returns the need of a shake. (P2.9)
func Need(l api.Load, s api.Shake) (api.Point, api.Errno) {
	if e := checkShaken(l, nil, s); e != api.OK {
		return api.Point{}, e
	}
	return need(l, s), api.OK
}

// checkShaken returns the errors of the load, of the lashings, and of the shake.
func checkShaken(l api.Load, x []api.Lash, s api.Shake) api.Errno {
	if e := checkLashes(l, x); e != api.OK {
		return e
	}
	return checkShake(s)
}

// checkLashes returns the errors of the load, and of the lashings.
func checkLashes(l api.Load, x []api.Lash) api.Errno {
	if e := Check(l); e != api.OK {
		return e
	}
	if len(x) > api.MaxLashes {
		return api.ErrMany
	}
	for _, lash := range x {
		if !isLash(l, lash) {
			return api.ErrArg
		}
	}
	return api.OK
}

func checkShake(s api.Shake) api.Errno {
	if isWithin(s.X, -api.MaxShake, api.MaxShake) && isWithin(s.Y, -api.MaxShake, api.MaxShake) && isWithin(s.Z, 0, api.MaxShake) {
		return api.OK
	}
	return api.ErrRange
}

func isLash(l api.Load, x api.Lash) bool {
	if x.Eye < 0 || x.Eye >= len(l.Eyes) {
		return false
	}
	eye := l.Eyes[x.Eye]
	if !isWithin(x.X, -api.MaxSide, api.MaxSide) || !isWithin(x.Y, -api.MaxSide, api.MaxSide) || !isWithin(x.Z, -api.MaxSide, eye.Z) {
		return false
	}
	return [3]int64{x.X, x.Y, x.Z} != [3]int64{eye.X, eye.Y, eye.Z} && isWithin(x.Strength, 0, api.MaxStrength)
}

// pull divides as Go does: towards 0.
func pull(l api.Load, x api.Lash) [3]int64 {
	eye := l.Eyes[x.Eye]
	way := [3]int64{x.X - eye.X, x.Y - eye.Y, eye.Z - x.Z}
	strength, length := min(x.Strength, eye.Strength), rootUp(way[0]*way[0]+way[1]*way[1]+way[2]*way[2])
	for axis := range 3 {
		way[axis] = strength * way[axis] / length
	}
	return way
}

// rootUp returns the least number whose square is at least n.
func rootUp(n int64) int64 {
	r, _ := plane.Root(n) // n is a sum of squares
	if r*r < n {
		r++
	}
	return r
}

func need(l api.Load, s api.Shake) api.Point {
	m := mass(l.Pieces)
	return api.Point{X: thousandthsUp(m * s.X), Y: thousandthsUp(m * s.Y)}
}

// thousandthsUp returns n / 1000, rounded away from 0.
func thousandthsUp(n int64) int64 {
	if n < 0 {
		return -thousandthsUp(-n)
	}
	return (n + api.Whole - 1) / api.Whole
}

// reach adds up what the friction on the deck and each lashing can do: a lashing may be slack, or pull with all of its
// force, and so press the load to the deck.
func reach(l api.Load, x []api.Lash, s api.Shake) []api.Point {
	parts := [][]api.Point{hull(rubs(mass(l.Pieces)*s.Z/api.Whole, l.Friction))}
	for _, lash := range x {
		p := pull(l, lash)
		able := []api.Point{{}}
		for _, r := range rubs(p[2], l.Friction) {
			able = append(able, plus(api.Point{X: p[0], Y: p[1]}, r))
		}
		parts = append(parts, hull(able))
	}
	return sum(parts)
}

// rubs returns the eight points whose hull is the friction area of a force.
func rubs(force, friction int64) []api.Point {
	r := force * friction / api.Whole
	s := r * 707 / api.Whole
	return []api.Point{
		{X: r}, {X: s, Y: s}, {Y: r}, {X: -s, Y: s},
		{X: -r}, {X: -s, Y: -s}, {Y: -r}, {X: s, Y: -s},
	}
}
