package convoy

import (
	"gooseneck/api"
	"gooseneck/plane"
)

// Off returns how far off a guide a point is. (P10.6)
func Off(guide []api.Point, p api.Point) (int64, int, api.Errno) {
	pieces, e := piecesOf(guide)
	if e != api.OK {
		return 0, 0, e
	}
	if e := plane.Check(p); e != api.OK {
		return 0, 0, e
	}
	gap, piece := off(pieces, p)
	return gap, piece, api.OK
}

// Track checks a track. (P10.6)
func Track(guide []api.Point, most int64, l []api.Fix) (int, api.Errno) {
	pieces, e := piecesOf(guide)
	if e != api.OK {
		return 0, e
	}
	if !isWithin(most, 0, api.MaxPlace) {
		return 0, api.ErrRange
	}
	if len(l) > api.MaxFixes {
		return 0, api.ErrMany
	}
	var time int64
	var last int
	for i, fix := range l {
		if plane.Check(fix.P) != api.OK || !isWithin(fix.At, 0, api.MaxTime) {
			return i, api.ErrArg
		}
		gap, piece := off(pieces, fix.P)
		switch {
		case fix.At < time:
			return i, api.ErrOld
		case gap > most:
			return i, api.ErrLimit
		case piece < last:
			return i, api.ErrState
		}
		time, last = fix.At, piece
	}
	return len(l), api.OK
}

// piecesOf returns the hulls of the pieces of a guide.
func piecesOf(guide []api.Point) ([][]api.Point, api.Errno) {
	if _, e := plane.Length(guide); e != api.OK {
		return nil, e
	}
	if len(guide) < 2 {
		return nil, api.ErrMany
	}
	var pieces [][]api.Point
	for i := range len(guide) - 1 {
		hull, e := plane.Hull(guide[i : i+2])
		if e != api.OK {
			return nil, e
		}
		pieces = append(pieces, hull)
	}
	return pieces, api.OK
}

// off returns how far off a valid point is from its piece, and the number of this piece.
func off(pieces [][]api.Point, p api.Point) (int64, int) {
	at := []api.Point{p}
	var least int64
	piece := -1
	for i, hull := range pieces {
		// Valid points, and the hulls of them, have a gap.
		if gap, _ := plane.Gap(hull, at); piece < 0 || gap < least {
			least, piece = gap, i
		}
	}
	return least, piece
}
