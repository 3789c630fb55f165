package bridge

import (
	"cmp"
	"iter"
	"sort"

	"gooseneck/api"
)

// What an effect that is not borne has as its point at the ends of a span.
const (
	leftEnd  = -1
	rightEnd = -2
)

// demand is what a span has to bear: the effects for a line, beside what the traffic on the other lanes does there, in kg
// for an end, and in kg millimetres for a moment.
type demand struct {
	line    line
	point   int64 // of an effect that is not borne
	factor  int64 // what one of an effect does is factor / divisor
	divisor int64
	traffic int64
	limit   int64
}

// Bears reports whether a bridge bears a train. (P6.7)
func Bears(b api.Bridge, t []api.Force, traffic bool) (api.Effect, api.Errno) {
	if e := cmp.Or(Check(b), CheckTrain(t)); e != api.OK {
		return api.Effect{}, e
	}
	for d := range demands(b, traffic) {
		worst := d.line.worst(t)
		if !d.isBorne(worst.Value) {
			worst.Point = d.point
			return worst, api.ErrLimit
		}
	}
	return api.Effect{}, api.OK
}

// Most returns how much of a train a bridge bears. (P6.7)
func Most(b api.Bridge, t []api.Force, traffic bool) (int64, api.Errno) {
	if e := cmp.Or(Check(b), CheckTrain(t)); e != api.OK {
		return 0, e
	}
	most := int64(api.MaxMore)
	if CheckTrain(multiplied(t, most)) != api.OK {
		return 0, api.ErrOver
	}
	for d := range demands(b, traffic) {
		most = d.most(t, most)
		if most < 0 {
			return 0, api.ErrLimit
		}
	}
	return most, api.OK
}

// demands yields what a bridge has to bear, in the order in which it is looked at.
func demands(b api.Bridge, traffic bool) iter.Seq[demand] {
	return func(yield func(demand) bool) {
		lanes := otherLanes(b, traffic)
		for span, length := range b.Spans {
			for x := range checkedPoints(length) {
				if !yield(demandOfMoment(b, span, x, lanes)) {
					return
				}
			}
			if !yield(demandOfEnd(b, span, false, lanes)) || !yield(demandOfEnd(b, span, true, lanes)) {
				return
			}
		}
	}
}

// otherLanes returns the traffic on all lanes but that of the train, in kg per metre.
func otherLanes(b api.Bridge, traffic bool) int64 {
	if !traffic {
		return 0
	}
	return int64(b.Lanes-1) * b.Traffic
}

func demandOfMoment(b api.Bridge, span int, x, lanes int64) demand {
	length := b.Spans[span]
	return demand{
		line: ofMoment(b, span, x), point: x,
		factor: api.Whole + b.Dynamic, divisor: api.Whole * length,
		traffic: up(lanes*x*(length-x), 2000), limit: 1000 * b.Moment[span],
	}
}

func demandOfEnd(b api.Bridge, span int, right bool, lanes int64) demand {
	length, point := b.Spans[span], int64(leftEnd)
	if right {
		point = rightEnd
	}
	return demand{
		line: ofEnd(b, span, right), point: point,
		factor: api.Whole + b.Dynamic, divisor: api.Whole * length,
		traffic: up(lanes*length, 2000), limit: b.Shear[span],
	}
}

// isBorne reports whether an effect of a value is borne.
func (d demand) isBorne(value int64) bool {
	// The product of the value and the factor may need more than 64 bits: whole divisors are taken out of the value before.
	whole, rest := value/d.divisor, value%d.divisor
	return whole*d.factor+up(rest*d.factor, d.divisor)+d.traffic <= d.limit
}

// most returns the greatest number of thousandths of a train that are borne, up to a number of them; -1 if none are.
func (d demand) most(t []api.Force, upTo int64) int64 {
	isBorne := func(n int64) bool { return d.isBorne(d.line.worst(multiplied(t, n)).Value) }
	if isBorne(upTo) {
		return upTo
	}
	// A train with greater loads has no lesser worst effect, so that what is not borne is behind what is.
	return int64(sort.Search(int(upTo), func(n int) bool { return !isBorne(int64(n)) })) - 1
}
