package statics

import "gooseneck/api"

const (
	// maxFilling bounds the filling of a group.
	maxFilling = api.MaxSupports * api.MaxStroke

	// maxParts is how many times the whole a part may be where a height is asked for.
	maxParts = 1024
)

// bed is a platform on the ground: the sums of its groups, and for each group its filling and all heights of the ground
// below it, added up.
type bed struct {
	rows   [3][3]int64
	levels [3]int64
}

// Height returns the height of a platform at a point. (P4.6)
func Height(p []api.Support, filling [3]int64, ground []int64, at api.Point) (int64, api.Errno) {
	b, e := laid(p, filling, ground)
	if e != api.OK {
		return 0, e
	}
	if e := checkPoint(at); e != api.OK {
		return 0, e
	}
	return b.height(at)
}

// Strokes returns the lengths of all cylinders. (P4.6)
func Strokes(p []api.Support, filling [3]int64, ground []int64) ([]int64, api.Errno) {
	b, e := laid(p, filling, ground)
	if e != api.OK {
		return nil, e
	}
	var lengths []int64
	for i, s := range p {
		height, e := b.height(api.Point{X: s.X, Y: s.Y})
		if e != api.OK {
			return nil, e
		}
		length := height - ground[i]
		if !isWithin(length, s.Least, s.Most) {
			return nil, api.ErrLimit
		}
		lengths = append(lengths, length)
	}
	return lengths, api.OK
}

// laid returns a platform on the ground, or the errors of both and of its fillings.
func laid(p []api.Support, filling [3]int64, ground []int64) (bed, api.Errno) {
	if e := Check(p); e != api.OK {
		return bed{}, e
	}
	if len(ground) != len(p) {
		return bed{}, api.ErrEqual
	}
	for group := range 3 {
		if !isWithin(filling[group], 0, maxFilling) {
			return bed{}, api.ErrRange
		}
	}
	b := bed{sums(p), filling}
	for i, s := range p {
		if !isWithin(ground[i], -api.MaxGround, api.MaxGround) {
			return bed{}, api.ErrRange
		}
		b.levels[s.Group] += ground[i]
	}
	return b, api.OK
}

func (b bed) height(at api.Point) (int64, api.Errno) {
	l, whole := parts(b.rows, at)
	var sum int64
	for group := range 3 {
		if amount(l[group]) > maxParts*whole {
			return 0, api.ErrOver
		}
		sum += fraction{l[group], whole}.down(b.levels[group])
	}
	return sum, api.OK
}
