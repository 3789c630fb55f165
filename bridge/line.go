package bridge

import (
	"cmp"

	"gooseneck/api"
)

// line is a line of influence of a bridge. Its places are counted from its origin.
type line struct {
	span    int   // as in the effects for it
	point   int64 // as in the effects for it
	origin  int64 // on the bridge
	corners [3]int64
	value   func(a int64) int64
}

// Line returns the line of a moment at a place. (P6.3)
func Line(b api.Bridge, span int, x, a int64) (int64, api.Errno) {
	if e := cmp.Or(Check(b), checkPoint(b, span, x), checkPlace(a)); e != api.OK {
		return 0, e
	}
	return ofMoment(b, span, x).value(a), api.OK
}

// Moment returns the effect for the line of a moment. (P6.3)
func Moment(b api.Bridge, t []api.Force, span int, x, s int64) (int64, api.Errno) {
	if e := cmp.Or(Check(b), CheckTrain(t), checkPoint(b, span, x), checkPlace(s)); e != api.OK {
		return 0, e
	}
	return ofMoment(b, span, x).effect(s, t...), api.OK
}

// End returns the effect for the line of an end. (P6.3)
func End(b api.Bridge, t []api.Force, span int, right bool, s int64) (int64, api.Errno) {
	if e := cmp.Or(Check(b), CheckTrain(t), checkSpan(b, span), checkPlace(s)); e != api.OK {
		return 0, e
	}
	return ofEnd(b, span, right).effect(s, t...), api.OK
}

// Pier returns the effect for the line of a pier. (P6.5)
func Pier(b api.Bridge, t []api.Force, k int, s int64) (int64, api.Errno) {
	if e := cmp.Or(Check(b), CheckTrain(t), checkPier(b, k), checkPlace(s)); e != api.OK {
		return 0, e
	}
	return ofPier(b, k).effect(s, t...), api.OK
}

// effect returns what axles do together, with the first one of their train at s.
func (l line) effect(s int64, axles ...api.Force) int64 {
	var sum int64
	for _, f := range axles {
		sum += f.P * l.value(s-f.X-l.origin)
	}
	return sum
}

// ofMoment returns the line of the moment at a point of a span.
func ofMoment(b api.Bridge, span int, x int64) line {
	length := b.Spans[span]
	return line{
		span: span, point: x, origin: beginning(b, span), corners: [3]int64{0, x, length},
		value: func(a int64) int64 { return tent(a*(length-x), x*(length-a)) },
	}
}

// ofEnd returns the line of the left or the right end of a span.
func ofEnd(b api.Bridge, span int, right bool) line {
	length := b.Spans[span]
	x, share := int64(0), func(a int64) int64 { return length - a }
	if right {
		x, share = length, func(a int64) int64 { return a }
	}
	return line{
		span: span, point: x, origin: beginning(b, span), corners: [3]int64{0, x, length},
		value: func(a int64) int64 {
			if !isWithin(a, 0, length) {
				return 0
			}
			return share(a)
		},
	}
}

// ofPier returns the line of the pier behind a span.
func ofPier(b api.Bridge, k int) line {
	before, after := b.Spans[k], b.Spans[k+1]
	return line{
		span: k, origin: beginning(b, k+1), corners: [3]int64{-before, 0, after},
		value: func(a int64) int64 { return tent(after*(before+a), before*(after-a)) },
	}
}

// tent returns the value of a line that rises from 0, and falls back to 0, from what it is where it rises and where it
// falls: both meet at its top, so that the lesser one holds, and out of the line one of them is below 0.
func tent(rising, falling int64) int64 { return max(0, min(rising, falling)) }

// beginning returns where a span begins.
func beginning(b api.Bridge, span int) int64 {
	var sum int64
	for _, length := range b.Spans[:span] {
		sum += length
	}
	return sum
}
