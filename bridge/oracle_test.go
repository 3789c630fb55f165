package bridge_test

import (
	"math/big"
	"slices"

	"gooseneck/api"
)

// What follows computes results once more, from the words of the chapter, with numbers of any size.

func whole(n int64) *big.Int { return big.NewInt(n) }

func times(l ...int64) *big.Int {
	product := whole(1)
	for _, n := range l {
		product.Mul(product, whole(n))
	}
	return product
}

// upOf returns n / d, rounded up: the division of package big has a rest from 0 on.
func upOf(n, d *big.Int) *big.Int {
	minus := new(big.Int).Neg(n)
	return minus.Neg(minus.Div(minus, d))
}

// beginOf returns where a span begins.
func beginOf(b api.Bridge, span int) int64 {
	var at int64
	for i := range span {
		at += b.Spans[i]
	}
	return at
}

// shape is a line of influence, at places of the bridge, with the places at which it may bend.
type shape struct {
	at    func(a int64) *big.Int
	bends []int64
}

func momentOf(b api.Bridge, span int, x int64) shape {
	begin, l := beginOf(b, span), b.Spans[span]
	return shape{bends: []int64{begin, begin + x, begin + l}, at: func(a int64) *big.Int {
		a -= begin
		switch {
		case a < 0 || a > l:
			return whole(0)
		case a <= x:
			return times(a, l-x)
		default:
			return times(x, l-a)
		}
	}}
}

func endOf(b api.Bridge, span int, right bool) shape {
	begin, l := beginOf(b, span), b.Spans[span]
	return shape{bends: []int64{begin, begin + l}, at: func(a int64) *big.Int {
		a -= begin
		switch {
		case a < 0 || a > l:
			return whole(0)
		case right:
			return whole(a)
		default:
			return whole(l - a)
		}
	}}
}

func pierOf(b api.Bridge, k int) shape {
	l, m := b.Spans[k], b.Spans[k+1]
	pier := beginOf(b, k) + l
	return shape{bends: []int64{pier - l, pier, pier + m}, at: func(a int64) *big.Int {
		a -= pier
		switch {
		case a >= -l && a <= 0:
			return times(m, l+a)
		case a >= 0 && a <= m:
			return times(l, m-a)
		default:
			return whole(0)
		}
	}}
}

// effectOf returns the effect of a train with the first axle at s.
func effectOf(l shape, t []api.Force, s int64) *big.Int {
	sum := whole(0)
	for _, f := range t {
		sum.Add(sum, new(big.Int).Mul(whole(f.P), l.at(s-f.X)))
	}
	return sum
}

// worstOf returns the greatest effect of all breaks, and the least break that has it.
func worstOf(l shape, t []api.Force) (*big.Int, int64) {
	var breaks []int64
	for _, bend := range l.bends {
		for _, f := range t {
			breaks = append(breaks, bend+f.X)
		}
	}
	slices.Sort(breaks)
	best, at := effectOf(l, t, breaks[0]), breaks[0]
	for _, s := range breaks {
		if e := effectOf(l, t, s); e.Cmp(best) > 0 {
			best, at = e, s
		}
	}
	return best, at
}

// worstEffectOf returns the worst effect, with a span and a point.
func worstEffectOf(l shape, t []api.Force, span int, point int64) api.Effect {
	value, at := worstOf(l, t)
	return api.Effect{Value: value.Int64(), Span: span, Point: point, At: at}
}

func pointsOf(length int64) []int64 {
	var l []int64
	for k := range int64(15) {
		l = append(l, (k+1)*length/16)
	}
	return l
}

// isBorneOf reports whether a value is borne: of the moment at a point x, or of an end if isEnd is true.
func isBorneOf(b api.Bridge, span int, isEnd bool, x int64, v *big.Int, traffic bool) bool {
	l := b.Spans[span]
	sum := upOf(new(big.Int).Mul(whole(1000+b.Dynamic), v), times(1000, l))
	beside, limit := times(int64(b.Lanes)-1, b.Traffic, x, l-x), times(1000, b.Moment[span])
	if isEnd {
		beside, limit = times(int64(b.Lanes)-1, b.Traffic, l), whole(b.Shear[span])
	}
	if traffic {
		sum.Add(sum, upOf(beside, whole(2000)))
	}
	return sum.Cmp(limit) <= 0
}

func bearsOf(b api.Bridge, t []api.Force, traffic bool) (api.Effect, api.Errno) {
	for span, l := range b.Spans {
		for _, x := range pointsOf(l) {
			worst := worstEffectOf(momentOf(b, span, x), t, span, x)
			if !isBorneOf(b, span, false, x, whole(worst.Value), traffic) {
				return worst, api.ErrLimit
			}
		}
		for i, point := range []int64{-1, -2} {
			worst := worstEffectOf(endOf(b, span, i == 1), t, span, point)
			if !isBorneOf(b, span, true, 0, whole(worst.Value), traffic) {
				return worst, api.ErrLimit
			}
		}
	}
	return api.Effect{}, api.OK
}

// multipliedOf returns a train multiplied by n thousandths.
func multipliedOf(t []api.Force, n int64) []api.Force {
	t = slices.Clone(t)
	for i := range t {
		t[i].P = upOf(times(t[i].P, n), whole(1000)).Int64()
	}
	return t
}

// pressureOf tries all places of the middle, whole ones and halves.
func pressureOf(t []api.Force, cover, wide int64) int64 {
	r := cover + 150
	var most int64
	for twice := int64(0); twice <= 2*t[len(t)-1].X; twice++ {
		var sum int64
		for _, f := range t {
			if 2*f.X >= twice-2*r && 2*f.X <= twice+2*r {
				sum += f.P
			}
		}
		most = max(most, sum)
	}
	return upOf(times(most, 1000000), times(2, r, wide+2*cover)).Int64()
}

// wearsOf returns the sum of the wears, and whether it and all on the way to it are at most 2^30.
func wearsOf(p api.Pavement, t []api.Force) (*big.Int, bool) {
	most, sum, isFine := whole(1<<30), whole(0), true
	for _, f := range t {
		r := upOf(times(f.P, 1000), whole(p.Load))
		wear := r
		for k := 1; k <= p.Power; k++ {
			if k > 1 {
				wear = upOf(new(big.Int).Mul(wear, r), whole(1000))
			}
			isFine = isFine && wear.Cmp(most) <= 0
		}
		sum.Add(sum, wear)
	}
	return sum, isFine && sum.Cmp(most) <= 0
}

func damageOf(p api.Pavement, t []api.Force, passes int64) (int64, api.Errno) {
	sum, isFine := wearsOf(p, t)
	if !isFine {
		return 0, api.ErrOver
	}
	return upOf(sum.Mul(sum, times(1000, passes)), whole(p.Life)).Int64(), api.OK
}

// leftOf counts passes on, in steps that become less.
func leftOf(p api.Pavement, t []api.Force, done int64) (int64, api.Errno) {
	if _, e := damageOf(p, t, 0); e != api.OK {
		return 0, e
	}
	if !slices.ContainsFunc(t, func(f api.Force) bool { return f.P > 0 }) {
		return 0, api.ErrNone
	}
	n := int64(0)
	for step := int64(api.MaxPasses); step > 0; step /= 2 {
		if damage, _ := damageOf(p, t, n+step); n+step <= api.MaxPasses && done+damage <= 1000000 {
			n += step
		}
	}
	return n, api.OK
}
