package load

import (
	"slices"

	"gooseneck/api"
)

// Turned returns a load that is turned to the left by quarter turns. (P2.6)
func Turned(l api.Load, quarters int) (api.Load, api.Errno) {
	if e := Check(l); e != api.OK {
		return api.Load{}, e
	}
	turned := clone(l)
	for range (quarters%4 + 4) % 4 {
		for i, p := range turned.Pieces {
			// What was the greatest Y is now the least X.
			p.X, p.Y, p.L, p.W = -(p.Y + p.W), p.X, p.W, p.L
			turned.Pieces[i] = p
		}
		for i, y := range turned.Eyes {
			turned.Eyes[i].X, turned.Eyes[i].Y = -y.Y, y.X
		}
	}
	return result(turned)
}

// Shifted returns a load that is shifted. (P2.6)
func Shifted(l api.Load, dx, dy, dz int64) (api.Load, api.Errno) {
	if e := Check(l); e != api.OK {
		return api.Load{}, e
	}
	for _, d := range [3]int64{dx, dy, dz} {
		if !isWithin(d, -2*api.MaxSide, 2*api.MaxSide) {
			return api.Load{}, api.ErrRange
		}
	}
	shifted := clone(l)
	for i := range shifted.Pieces {
		p := &shifted.Pieces[i]
		p.X, p.Y, p.Z = p.X+dx, p.Y+dy, p.Z+dz
	}
	for i := range shifted.Eyes {
		y := &shifted.Eyes[i]
		y.X, y.Y, y.Z = y.X+dx, y.Y+dy, y.Z+dz
	}
	return result(shifted)
}

// Joined returns two loads as one. (P2.6)
func Joined(a, b api.Load) (api.Load, api.Errno) {
	for _, l := range [2]api.Load{a, b} {
		if e := Check(l); e != api.OK {
			return api.Load{}, e
		}
	}
	if len(a.Pieces)+len(b.Pieces) > api.MaxPieces || len(a.Eyes)+len(b.Eyes) > api.MaxEyes {
		return api.Load{}, api.ErrMany
	}
	return result(api.Load{
		Name:     a.Name,
		Pieces:   slices.Concat(a.Pieces, b.Pieces),
		Eyes:     slices.Concat(a.Eyes, b.Eyes),
		Friction: min(a.Friction, b.Friction),
	})
}

func clone(l api.Load) api.Load {
	l.Pieces, l.Eyes = slices.Clone(l.Pieces), slices.Clone(l.Eyes)
	return l
}

// result returns a load that was made of others, or ErrOver if it is not valid.
func result(l api.Load) (api.Load, api.Errno) {
	if Check(l) != api.OK {
		return api.Load{}, api.ErrOver
	}
	return l, api.OK
}
