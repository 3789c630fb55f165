package bridge_test

import (
	"math/rand/v2"
	"slices"
	"testing"

	"gooseneck/api"
	"gooseneck/bridge"
)

// effect is a kind of effects on a bridge: at a place, and the worst one.
type effect struct {
	at    func(t []api.Force, s int64) (int64, api.Errno)
	worst func(t []api.Force) (api.Effect, api.Errno)
}

// effects are the kinds of effects on a span of a bridge, with a point of it.
func effects(b api.Bridge, span int, x int64) map[string]effect {
	all := map[string]effect{
		"a moment": {
			func(t []api.Force, s int64) (int64, api.Errno) { return bridge.Moment(b, t, span, x, s) },
			func(t []api.Force) (api.Effect, api.Errno) { return bridge.WorstMoment(b, t, span, x) },
		},
		"a left end": {
			func(t []api.Force, s int64) (int64, api.Errno) { return bridge.End(b, t, span, false, s) },
			func(t []api.Force) (api.Effect, api.Errno) { return bridge.WorstEnd(b, t, span, false) },
		},
		"a right end": {
			func(t []api.Force, s int64) (int64, api.Errno) { return bridge.End(b, t, span, true, s) },
			func(t []api.Force) (api.Effect, api.Errno) { return bridge.WorstEnd(b, t, span, true) },
		},
	}
	if span+1 < len(b.Spans) {
		all["a pier"] = effect{
			func(t []api.Force, s int64) (int64, api.Errno) { return bridge.Pier(b, t, span, s) },
			func(t []api.Force) (api.Effect, api.Errno) { return bridge.WorstPier(b, t, span) },
		}
	}
	return all
}

// anyPlace returns a bridge, a span and a point of it.
func anyPlace(r *rand.Rand, most int64) (api.Bridge, int, int64) {
	b := anyBridge(r, 3, most)
	span := r.IntN(len(b.Spans))
	return b, span, from(r, 0, b.Spans[span])
}

// P6.10: no effect at any whole place is greater than the worst one, and between two of them there is none, either: what
// is between two places is so in a bridge, and for a train, of which all lengths are doubled.
func TestEveryPosition(t *testing.T) {
	r := chance(9)
	for range 60 {
		b, span, x := anyPlace(r, 300)
		train := anyTrain(r, 5, 600, 1<<from(r, 0, 20))
		for i := range b.Spans {
			b.Spans[i] *= 2
		}
		for i := range train {
			train[i].X *= 2
		}
		for what, kind := range effects(b, span, 2*x) {
			worst := must[api.Effect](t, what)(kind.worst(train))
			for s := int64(-10); s <= 2*900+2*600+10; s++ {
				if got := must[int64](t, what)(kind.at(train, s)); got > worst.Value {
					t.Fatalf("%s is %d at %d; the worst one is %v", what, got, s, worst)
				}
			}
			got, e := kind.at(train, worst.At)
			check(t, what, got, e, worst.Value, api.OK)
		}
	}
}

// P6.10: the same for great bridges, at some places.
func TestManyPositions(t *testing.T) {
	r := chance(10)
	for range 300 {
		b, span, x := anyPlace(r, 1<<17)
		train := anyTrain(r, 64, 1<<from(r, 0, 18), 1<<20)
		for what, kind := range effects(b, span, x) {
			worst := must[api.Effect](t, what)(kind.worst(train))
			got, e := kind.at(train, worst.At)
			check(t, what, got, e, worst.Value, api.OK)
			for range 20 {
				s := from(r, -1000, 1<<20)
				if r.IntN(2) == 0 {
					s = worst.At + from(r, -20, 20)
				}
				if got := must[int64](t, what)(kind.at(train, s)); got > worst.Value {
					t.Fatalf("%s is %d at %d; the worst one is %v", what, got, s, worst)
				}
			}
		}
	}
}

// P6.11: the effect of a train is the sum of those of its axles alone.
func TestEachLoad(t *testing.T) {
	r := chance(11)
	for range 500 {
		most := from(r, 100, 1<<from(r, 7, 17))
		b, span, x := anyPlace(r, most)
		train := anyTrain(r, 64, min(2*most, 1<<18), 1<<20)
		s := from(r, -1000, 4*most)
		for what, kind := range effects(b, span, x) {
			var sum int64
			for _, f := range train {
				sum += must[int64](t, what)(kind.at(forces(0, f.P), s-f.X))
			}
			got, e := kind.at(train, s)
			check(t, what, got, e, sum, api.OK)
		}
	}
}

// P6.11: a train with greater loads has no lesser worst effect.
func TestGreaterLoads(t *testing.T) {
	r := chance(12)
	for range 300 {
		most := from(r, 100, 1<<from(r, 7, 17))
		b, span, x := anyPlace(r, most)
		train := anyTrain(r, 12, min(2*most, 1<<18), 1<<from(r, 0, 20))
		more := heavier(r, train, 1<<20)
		for what, kind := range effects(b, span, x) {
			a, c := must[api.Effect](t, what)(kind.worst(train)), must[api.Effect](t, what)(kind.worst(more))
			if a.Value > c.Value {
				t.Fatalf("%s of %v is %v, and of %v %v", what, train, a, more, c)
			}
		}
	}
}

// P6.12: a bridge that bears a train bears what it does at every place.
func TestBorneEverywhere(t *testing.T) {
	r := chance(13)
	borne := 0
	for range 200 {
		most := from(r, 100, 1<<from(r, 7, 17))
		b := anyBridge(r, 3, most)
		train := anyTrain(r, 4, min(2*most, 1<<18), 1<<from(r, 10, 20))
		fit(b, train, from(r, 1000, 2000))
		traffic := r.IntN(2) == 0
		if _, e := bridge.Bears(b, train, traffic); e != api.OK {
			continue
		}
		borne++
		for span, length := range b.Spans {
			for range 20 {
				x := pointsOf(length)[r.IntN(15)]
				s := from(r, beginOf(b, span), beginOf(b, span)+length+train[len(train)-1].X)
				for what, kind := range effects(b, span, x) {
					v := effectOf(momentOf(b, span, x), train, s)
					switch what {
					case "a pier":
						continue
					case "a left end", "a right end":
						v = effectOf(endOf(b, span, what == "a right end"), train, s)
					}
					check(t, what, must[int64](t, what)(kind.at(train, s)), api.OK, v.Int64(), api.OK)
					if !isBorneOf(b, span, what != "a moment", x, v, traffic) {
						t.Fatalf("%s is not borne at %d", what, s)
					}
				}
			}
		}
	}
	if borne < 30 {
		t.Errorf("only %d are borne", borne)
	}
}

// P6.12: with more traffic, more dynamics, or greater loads, what was not borne is not borne.
func TestNotBorneWithMore(t *testing.T) {
	r := chance(14)
	not := 0
	for range 300 {
		most := from(r, 100, 1<<from(r, 7, 17))
		b := anyBridge(r, 2, most)
		train := anyTrain(r, 4, min(2*most, 1<<18), 1<<from(r, 10, 18))
		fit(b, train, from(r, 500, 1500))
		traffic := r.IntN(2) == 0
		_, e := bridge.Bears(b, train, traffic)
		if e == api.OK {
			continue
		}
		not++
		busy, shaken, wide := b, b, b
		busy.Traffic = from(r, b.Traffic, 4096)
		shaken.Dynamic = from(r, b.Dynamic, 1000)
		wide.Lanes = b.Lanes + r.IntN(5-b.Lanes)
		for what, e := range map[string]api.Errno{
			"more traffic":  errorOf(bridge.Bears(busy, train, traffic)),
			"more lanes":    errorOf(bridge.Bears(wide, train, traffic)),
			"any traffic":   errorOf(bridge.Bears(b, train, true)),
			"more dynamics": errorOf(bridge.Bears(shaken, train, traffic)),
			"greater loads": errorOf(bridge.Bears(b, heavier(r, train, 1<<20), traffic)),
		} {
			checkErr(t, what, e, api.ErrLimit)
		}
		before, _ := bridge.Most(b, train, false)
		after, _ := bridge.Most(shaken, train, false)
		if after > before {
			t.Errorf("%d thousandths are borne, and with more dynamics %d", before, after)
		}
	}
	if not < 100 {
		t.Errorf("only %d are not borne", not)
	}
}

func errorOf(_ api.Effect, e api.Errno) api.Errno { return e }

// P6.12: of all numbers of thousandths just those up to Most are borne.
func TestMostOfAll(t *testing.T) {
	r := chance(15)
	for range 5 {
		b := anyBridge(r, 1, 1<<from(r, 7, 17))
		train := anyTrain(r, 2, 300, 1<<from(r, 4, 18))
		fit(b, train, from(r, 1000, 4000))
		most := must[int64](t, "Most")(bridge.Most(b, train, false))
		for n := range int64(4001) {
			if e := errorOf(bridge.Bears(b, multipliedOf(train, n), false)); (e == api.OK) != (n <= most) {
				t.Fatalf("%d thousandths: error %d, and Most is %d", n, e, most)
			}
		}
	}
}

// P6.13: if a span is seen from its other end, and the train backwards, the moments are those of the other points, and the
// ends are exchanged.
func TestMirrored(t *testing.T) {
	r := chance(16)
	for range 500 {
		most := from(r, 100, 1<<from(r, 7, 17))
		b, span, x := anyPlace(r, most)
		train := anyTrain(r, 12, min(2*most, 1<<18), 1<<20)
		length := b.Spans[span]
		mirror, back := b, slices.Clone(train)
		mirror.Spans = slices.Clone(b.Spans)
		slices.Reverse(mirror.Spans)
		slices.Reverse(back)
		for i := range back {
			back[i].X = train[len(train)-1].X - back[i].X
		}
		other := len(b.Spans) - 1 - span
		a, e := bridge.WorstMoment(b, train, span, x)
		m, e2 := bridge.WorstMoment(mirror, back, other, length-x)
		check(t, "a moment", m.Value, e2, a.Value, e)
		for _, right := range []bool{false, true} {
			a, e = bridge.WorstEnd(b, train, span, right)
			m, e2 = bridge.WorstEnd(mirror, back, other, !right)
			check(t, "an end", m.Value, e2, a.Value, e)
		}
		if span+1 < len(b.Spans) {
			a, e = bridge.WorstPier(b, train, span)
			m, e2 = bridge.WorstPier(mirror, back, other-1)
			check(t, "a pier", m.Value, e2, a.Value, e)
		}
	}
}

// P6.14: both ends together have the length times the loads that are on the span.
func TestShares(t *testing.T) {
	r := chance(17)
	some := 0
	for range 2000 {
		most := from(r, 100, 1<<from(r, 7, 17))
		b, span, _ := anyPlace(r, most)
		train := anyTrain(r, 64, min(2*most, 1<<18), 1<<20)
		begin, length := beginOf(b, span), b.Spans[span]
		s := from(r, begin-10, begin+2*length)
		if r.IntN(2) == 0 { // an axle at an end
			s = begin + length*from(r, 0, 1) + train[r.IntN(len(train))].X
		}
		var on int64
		for _, f := range train {
			if begin <= s-f.X && s-f.X <= begin+length {
				on += f.P
			}
		}
		if on > 0 {
			some++
		}
		left := must[int64](t, "left")(bridge.End(b, train, span, false, s))
		right, e := bridge.End(b, train, span, true, s)
		check(t, "both ends", left+right, e, length*on, api.OK)
	}
	if some < 1000 {
		t.Errorf("only %d have loads on the span", some)
	}
}

// P6.15: with greater loads the damage is not less; with twice the passes it is at most twice, and not less.
func TestMoreWear(t *testing.T) {
	r := chance(18)
	fine := 0
	for range 2000 {
		p := pavement(from(r, 1, 1<<from(r, 0, 20)), from(r, 1, 1<<from(r, 0, 20)), 1+r.IntN(6))
		load := min(p.Load<<from(r, 0, 2), 1<<20)
		train := anyTrain(r, 1+r.Int64N(12), 1<<18, load)
		passes := from(r, 0, 1<<from(r, 0, 19))
		once, e := bridge.Damage(p, train, passes)
		twice, e2 := bridge.Damage(p, train, 2*passes)
		if e == api.OK && (e2 != api.OK || twice < once || twice > 2*once) {
			t.Fatalf("the damage is %d, and %d with twice the passes", once, twice)
		}
		more, e3 := bridge.Damage(p, heavier(r, train, load), passes)
		if e3 == api.OK && (e != api.OK || more < once) {
			t.Fatalf("the damage is %d, and %d with greater loads", once, more)
		}
		if e3 == api.OK {
			fine++
		}
	}
	if fine < 1000 {
		t.Errorf("only %d are fine", fine)
	}
}

// P6.15: with the load Load, any power, and Life passes, the damage of an axle is 1,000,000.
func TestLife(t *testing.T) {
	r := chance(19)
	for range 500 {
		p := pavement(from(r, 1, 1<<from(r, 0, 20)), from(r, 1, 1<<from(r, 0, 20)), 1+r.IntN(6))
		got, e := bridge.Damage(p, forces(0, p.Load), p.Life)
		check(t, "the damage", got, e, 1000000, api.OK)
		got, e = bridge.Left(p, forces(0, p.Load), 0)
		check(t, "what is left", got, e, p.Life, api.OK)
	}
}
