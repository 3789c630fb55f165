package bridge

import (
	"cmp"
	"iter"

	"gooseneck/api"
)

// WorstMoment returns the worst effect for a moment. (P6.4)
func WorstMoment(b api.Bridge, t []api.Force, span int, x int64) (api.Effect, api.Errno) {
	if e := cmp.Or(Check(b), CheckTrain(t), checkPoint(b, span, x)); e != api.OK {
		return api.Effect{}, e
	}
	return ofMoment(b, span, x).worst(t), api.OK
}

// WorstEnd returns the worst effect for an end. (P6.4)
func WorstEnd(b api.Bridge, t []api.Force, span int, right bool) (api.Effect, api.Errno) {
	if e := cmp.Or(Check(b), CheckTrain(t), checkSpan(b, span)); e != api.OK {
		return api.Effect{}, e
	}
	return ofEnd(b, span, right).worst(t), api.OK
}

// WorstPier returns the worst effect for a pier. (P6.5)
func WorstPier(b api.Bridge, t []api.Force, k int) (api.Effect, api.Errno) {
	if e := cmp.Or(Check(b), CheckTrain(t), checkPier(b, k)); e != api.OK {
		return api.Effect{}, e
	}
	return ofPier(b, k).worst(t), api.OK
}

// Moments returns the worst moments of all spans. (P6.6)
func Moments(b api.Bridge, t []api.Force) ([]api.Effect, api.Errno) {
	if e := cmp.Or(Check(b), CheckTrain(t)); e != api.OK {
		return nil, e
	}
	var l []api.Effect
	for span := range b.Spans {
		l = append(l, greatest(worstMoments(b, t, span), func(e, f api.Effect) int { return cmp.Compare(e.Value, f.Value) }))
	}
	return l, api.OK
}

// worstMoments yields the worst effects of the moments at the checked points of a span.
func worstMoments(b api.Bridge, t []api.Force, span int) iter.Seq[api.Effect] {
	return func(yield func(api.Effect) bool) {
		for x := range checkedPoints(b.Spans[span]) {
			if !yield(ofMoment(b, span, x).worst(t)) {
				return
			}
		}
	}
}

// checkedPoints yields the points of a span of a length at which moments are checked.
func checkedPoints(length int64) iter.Seq[int64] {
	return func(yield func(int64) bool) {
		for k := int64(1); k <= 15; k++ {
			if !yield(length * k / 16) {
				return
			}
		}
	}
}

// worst returns the worst effect of a train.
func (l line) worst(t []api.Force) api.Effect {
	return greatest(l.effects(t), func(e, f api.Effect) int {
		return cmp.Or(cmp.Compare(e.Value, f.Value), cmp.Compare(f.At, e.At))
	})
}

// effects yields the effects of a train at all its breaks.
func (l line) effects(t []api.Force) iter.Seq[api.Effect] {
	return func(yield func(api.Effect) bool) {
		for s := range l.breaks(t) {
			if !yield(api.Effect{Value: l.effect(s, t...), Span: l.span, Point: l.point, At: s}) {
				return
			}
		}
	}
}

// breaks yields the places of the first axle at which an axle is at a corner of the line, in any order.
func (l line) breaks(t []api.Force) iter.Seq[int64] {
	return func(yield func(int64) bool) {
		for _, f := range t {
			for _, corner := range l.corners {
				if !yield(l.origin + corner + f.X) {
					return
				}
			}
		}
	}
}

// greatest returns the first one than which no other one is greater.
func greatest[T any](all iter.Seq[T], compare func(a, b T) int) T {
	var best T
	isFound := false
	for one := range all {
		if !isFound || compare(one, best) > 0 {
			best, isFound = one, true
		}
	}
	return best
}
