package load

import (
	"gooseneck/api"
	"gooseneck/plane"
)

// Mass returns the mass. (P2.2)
func Mass(l api.Load) (int64, api.Errno) {
	if e := Check(l); e != api.OK {
		return 0, e
	}
	return mass(l.Pieces), api.OK
}

// Moments returns the moments, which are twice those about the origin of the deck. (P2.2)
func Moments(l api.Load) ([3]int64, api.Errno) {
	if e := Check(l); e != api.OK {
		return [3]int64{}, e
	}
	return moments(l.Pieces), api.OK
}

// Centre returns the centre, in the nearest whole numbers. (P2.2)
func Centre(l api.Load) ([3]int64, api.Errno) {
	if e := Check(l); e != api.OK {
		return [3]int64{}, e
	}
	centre := moments(l.Pieces)
	for axis := range 3 {
		centre[axis], _ = plane.Nearest(centre[axis], 2*mass(l.Pieces)) // far from the limits of Nearest
	}
	return centre, api.OK
}

// Envelope returns both ends of the envelope. (P2.2)
func Envelope(l api.Load) ([3]int64, [3]int64, api.Errno) {
	if e := Check(l); e != api.OK {
		return [3]int64{}, [3]int64{}, e
	}
	least, most := ends(l.Pieces[0])
	for _, p := range l.Pieces {
		low, high := ends(p)
		for axis := range 3 {
			least[axis] = min(least[axis], low[axis])
			most[axis] = max(most[axis], high[axis])
		}
	}
	return least, most, api.OK
}

func mass(pieces []api.Piece) int64 {
	var sum int64
	for _, p := range pieces {
		sum += p.Mass
	}
	return sum
}

func moments(pieces []api.Piece) [3]int64 {
	var sums [3]int64
	for _, p := range pieces {
		low, high := ends(p)
		for axis := range 3 {
			sums[axis] += p.Mass * (low[axis] + high[axis])
		}
	}
	return sums
}

// ends returns where a piece begins, and where it ends, in X, Y and Z.
func ends(p api.Piece) (low, high [3]int64) {
	return [3]int64{p.X, p.Y, p.Z}, [3]int64{p.X + p.L, p.Y + p.W, p.Z + p.H}
}
