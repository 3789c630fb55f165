package plane

import "gooseneck/api"

// Length returns the length of a polyline: the sum of those of its pieces, each rounded down. (P1.7)
func Length(l []api.Point) (int64, api.Errno) {
	if e := checkLists(l); e != api.OK {
		return 0, e
	}
	if len(l) == 0 {
		return 0, api.ErrNone
	}
	var whole int64
	for i := range len(l) - 1 {
		whole += distance(l[i], l[i+1])
	}
	return whole, api.OK
}

// Along returns the point at s of a polyline, and the number of its piece. (P1.7)
func Along(l []api.Point, s int64) (api.Point, int, api.Errno) {
	whole, e := Length(l)
	if e != api.OK {
		return api.Point{}, 0, e
	}
	if s < 0 || s > whole {
		return api.Point{}, 0, api.ErrRange
	}
	p, piece := along(l, s)
	return p, piece, api.OK
}

func along(l []api.Point, s int64) (api.Point, int) {
	for i := range len(l) - 1 {
		d := distance(l[i], l[i+1])
		if d > 0 && s <= d {
			way := minus(l[i+1], l[i])
			return plus(l[i], api.Point{X: nearest(way.X*s, d), Y: nearest(way.Y*s, d)}), i
		}
		s -= d
	}
	return l[0], 0
}
