package plane

import "gooseneck/api"

// fine is by how much finer than a millimetre the length of a body is measured.
const fine = 32

// Place returns the place of a body that is x ahead of its axle, and y to the left. (P1.10)
func Place(axle, hitch api.Point, x, y int64) (api.Point, api.Errno) {
	if e := checkPoints(axle, hitch); e != api.OK {
		return api.Point{}, e
	}
	if beyond(x, api.MaxPlace) || beyond(y, api.MaxPlace) {
		return api.Point{}, api.ErrRange
	}
	return place(axle, hitch, x, y)
}

// Pull returns where an axle comes to that is pulled to a hitch by a bar. (P1.10)
func Pull(hitch, axle api.Point, length int64) (api.Point, api.Errno) {
	if e := checkPoints(hitch, axle); e != api.OK {
		return api.Point{}, e
	}
	if length < 1 || length > api.MaxPlace {
		return api.Point{}, api.ErrRange
	}
	// The bar goes from the hitch towards where the axle was, as a body goes from its axle to its hitch.
	return place(hitch, axle, length, 0)
}

func place(axle, hitch api.Point, x, y int64) (api.Point, api.Errno) {
	d := minus(hitch, axle)
	r := root(fine * fine * dot(d, d))
	if r == 0 {
		return api.Point{}, api.ErrZero
	}
	moved := api.Point{X: nearest(fine*(d.X*x-d.Y*y), r), Y: nearest(fine*(d.Y*x+d.X*y), r)}
	return result(plus(axle, moved))
}
