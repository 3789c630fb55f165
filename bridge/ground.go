package bridge

import (
	"cmp"
	"iter"

	"gooseneck/api"
)

const (
	// spread is how far ahead of an axle, and behind it, its load acts on a culvert without a cover.
	spread = 150

	minWide = 100
	maxWide = 10000

	maxPower = 6

	// maxWear bounds the wears of axles, and their sum.
	maxWear = 1 << 30

	// worn is the damage of a pavement that bears no more, in millionths.
	worn = 1000000
)

// Pressure returns the pressure over a culvert. (P6.8)
func Pressure(t []api.Force, cover, wide int64) (int64, api.Errno) {
	if e := CheckTrain(t); e != api.OK {
		return 0, e
	}
	if !isWithin(cover, 0, api.MaxCover) || !isWithin(wide, minWide, maxWide) {
		return 0, api.ErrRange
	}
	long := 2 * (cover + spread)
	weight := greatest(weights(t, long), cmp.Compare[int64])
	return up(weight*1000000, long*(wide+2*cover)), api.OK
}

// weights yields for each axle the sum of the loads from it on back, up to a length. The greatest sum of all places is one
// of these: a length that begins elsewhere can be moved back to the first axle that is on it, and no axle leaves it.
func weights(t []api.Force, length int64) iter.Seq[int64] {
	return func(yield func(int64) bool) {
		for i, first := range t {
			var sum int64
			for _, f := range t[i:] {
				if f.X <= first.X+length {
					sum += f.P
				}
			}
			if !yield(sum) {
				return
			}
		}
	}
}

// CheckPavement reports whether a pavement is valid. (P6.9)
func CheckPavement(p api.Pavement) api.Errno {
	if isWithin(p.Load, 1, api.MaxForce) && isWithin(p.Life, 1, api.MaxPasses) && isWithin(p.Power, 1, maxPower) {
		return api.OK
	}
	return api.ErrArg
}

// Damage returns the damage of a pavement. (P6.9)
func Damage(p api.Pavement, t []api.Force, passes int64) (int64, api.Errno) {
	if e := cmp.Or(CheckPavement(p), CheckTrain(t)); e != api.OK {
		return 0, e
	}
	if !isWithin(passes, 0, api.MaxPasses) {
		return 0, api.ErrRange
	}
	sum := wears(p, t)
	if sum > maxWear {
		return 0, api.ErrOver
	}
	return up(sum*api.Whole*passes, p.Life), api.OK
}

// Left returns how many passes a pavement still bears. (P6.9)
func Left(p api.Pavement, t []api.Force, done int64) (int64, api.Errno) {
	if e := cmp.Or(CheckPavement(p), CheckTrain(t)); e != api.OK {
		return 0, e
	}
	if !isWithin(done, 0, worn) {
		return 0, api.ErrRange
	}
	sum := wears(p, t)
	if sum > maxWear {
		return 0, api.ErrOver
	}
	if sum == 0 {
		return 0, api.ErrNone
	}
	// What is left is whole: a damage that is rounded up is within it just if the exact one is.
	return min(api.MaxPasses, (worn-done)*p.Life/(sum*api.Whole)), api.OK
}

// wears returns the sum of the wears of the axles of a train. It is above maxWear if one of them is.
func wears(p api.Pavement, t []api.Force) int64 {
	var sum int64
	for _, f := range t {
		sum += wear(p, f.P)
	}
	return sum
}

// wear returns the wear of an axle, or what is above maxWear on the way to it: from there on it might need more than 64 bits.
func wear(p api.Pavement, load int64) int64 {
	r := up(load*api.Whole, p.Load)
	w := r
	for power := 1; power < p.Power && w <= maxWear; power++ {
		w = up(w*r, api.Whole)
	}
	return w
}
