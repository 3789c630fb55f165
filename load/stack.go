package load

import (
	"slices"

	"gooseneck/api"
)

// Overlap returns the first two pieces that overlap. (P2.4)
func Overlap(l api.Load) (int, int, api.Errno) {
	if e := Check(l); e != api.OK {
		return 0, 0, e
	}
	for i, a := range l.Pieces {
		for k, b := range l.Pieces[i+1:] {
			if share(a, b, 3) {
				return i, i + 1 + k, api.OK
			}
		}
	}
	return 0, 0, api.ErrNone
}

// Rests returns the pieces on which a piece rests. (P2.5)
func Rests(l api.Load, i int) ([]int, api.Errno) {
	if e := checkIndex(l, i); e != api.OK {
		return nil, e
	}
	return below(l.Pieces, i), api.OK
}

// Carries returns the pieces that a piece carries, itself among them. (P2.5)
func Carries(l api.Load, i int) ([]int, api.Errno) {
	if e := checkIndex(l, i); e != api.OK {
		return nil, e
	}
	return carried(l.Pieces, i), api.OK
}

// Falls returns the first piece that does not stand. (P2.5)
func Falls(l api.Load) (int, api.Errno) {
	if e := Check(l); e != api.OK {
		return 0, e
	}
	for i := range l.Pieces {
		if !stands(l.Pieces, i) {
			return i, api.OK
		}
	}
	return 0, api.ErrNone
}

func checkIndex(l api.Load, i int) api.Errno {
	if e := Check(l); e != api.OK {
		return e
	}
	if i < 0 || i >= len(l.Pieces) {
		return api.ErrRange
	}
	return api.OK
}

// share reports whether in each of the first axes both pieces begin before the other one ends: in two of them, their
// plans have an area in common, in three of them, they overlap.
func share(a, b api.Piece, axes int) bool {
	lowA, highA := ends(a)
	lowB, highB := ends(b)
	for axis := range axes {
		if lowA[axis] >= highB[axis] || lowB[axis] >= highA[axis] {
			return false
		}
	}
	return true
}

func rests(upper, lower api.Piece) bool {
	return upper.Z == lower.Z+lower.H && share(upper, lower, 2)
}

// below returns the pieces on which a piece rests.
func below(pieces []api.Piece, i int) []int {
	var l []int
	for k, p := range pieces {
		if rests(pieces[i], p) {
			l = append(l, k)
		}
	}
	return l
}

// carried returns what a piece carries: what is found rests on something that was found before.
func carried(pieces []api.Piece, i int) []int {
	found := []int{i}
	for n := 0; n < len(found); n++ {
		for k, p := range pieces {
			if rests(p, pieces[found[n]]) && !slices.Contains(found, k) {
				found = append(found, k)
			}
		}
	}
	slices.Sort(found)
	return found
}

func stands(pieces []api.Piece, i int) bool {
	if pieces[i].Z == 0 {
		return true
	}
	var ground []api.Piece
	for _, k := range below(pieces, i) {
		ground = append(ground, contact(pieces[i], pieces[k]))
	}
	base, e := outline(ground)
	if e != api.OK { // it rests on nothing
		return false
	}
	return balances(base, heaped(pieces, i))
}

// contact returns, as a piece of no height, the area in which a piece touches another one that it rests on.
func contact(a, b api.Piece) api.Piece {
	x, y := max(a.X, b.X), max(a.Y, b.Y)
	return api.Piece{X: x, Y: y, L: min(a.X+a.L, b.X+b.L) - x, W: min(a.Y+a.W, b.Y+b.W) - y}
}

// heaped returns the pieces whose centre has to be above what a piece rests on: those that it carries; if these have no
// mass, and so no centre, the piece alone with some mass.
func heaped(pieces []api.Piece, i int) []api.Piece {
	var l []api.Piece
	for _, k := range carried(pieces, i) {
		l = append(l, pieces[k])
	}
	if mass(l) == 0 {
		alone := pieces[i]
		alone.Mass = 1
		return []api.Piece{alone}
	}
	return l
}

// balances reports whether the centre of pieces is in the plan in a base, which has an area, or on its edge. The centre
// is not rounded: all is multiplied with twice the mass.
func balances(base []api.Point, l []api.Piece) bool {
	sums, scale := moments(l), 2*mass(l)
	for i, a := range base {
		side := minus(base[(i+1)%len(base)], a)
		from := api.Point{X: sums[0] - scale*a.X, Y: sums[1] - scale*a.Y}
		if cross(side, from) < 0 {
			return false
		}
	}
	return true
}
