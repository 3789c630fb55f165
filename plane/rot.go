package plane

import "gooseneck/api"

// maxHalf bounds the numbers of a half.
const maxHalf = 2048

// CheckRot returns ErrArg if a turn is not valid. (P1.8)
func CheckRot(r api.Rot) api.Errno {
	if r.N < 1 || r.N > api.MaxTurn {
		return api.ErrArg
	}
	// Squares of greater numbers could wrap around to the sum that is asked for.
	if beyond(r.C, r.N) || beyond(r.S, r.N) || r.C*r.C+r.S*r.S != r.N*r.N {
		return api.ErrArg
	}
	return api.OK
}

// Half returns the turn whose half has the tangent n / d. (P1.8)
func Half(n, d int64) (api.Rot, api.Errno) {
	if d < 1 || d > maxHalf || beyond(n, maxHalf) {
		return api.Rot{}, api.ErrArg
	}
	return api.Rot{C: d*d - n*n, S: 2 * n * d, N: d*d + n*n}, api.OK
}

// Both returns two turns one after another as one turn. (P1.8)
func Both(a, b api.Rot) (api.Rot, api.Errno) {
	if CheckRot(a) != api.OK || CheckRot(b) != api.OK {
		return api.Rot{}, api.ErrArg
	}
	r := api.Rot{C: a.C*b.C - a.S*b.S, S: a.S*b.C + a.C*b.S, N: a.N * b.N}
	g := divisor(r.N, divisor(amount(r.C), amount(r.S)))
	r = api.Rot{C: r.C / g, S: r.S / g, N: r.N / g}
	if r.N > api.MaxTurn {
		return api.Rot{}, api.ErrOver
	}
	return r, api.OK
}

// Rotate turns a point about another one. (P1.9)
func Rotate(p, about api.Point, r api.Rot) (api.Point, api.Errno) {
	if e := checkPoints(p, about); e != api.OK {
		return api.Point{}, e
	}
	if e := CheckRot(r); e != api.OK {
		return api.Point{}, e
	}
	d := minus(p, about)
	turned := api.Point{X: nearest(d.X*r.C-d.Y*r.S, r.N), Y: nearest(d.X*r.S+d.Y*r.C, r.N)}
	return result(plus(about, turned))
}

// divisor returns the greatest common divisor of two numbers from 0 on.
func divisor(a, b int64) int64 {
	for b != 0 {
		a, b = b, a%b
	}
	return a
}
