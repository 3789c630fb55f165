package bridge_test

import (
	"math"
	"slices"
	"testing"

	"gooseneck/api"
	"gooseneck/bridge"
)

// P6.4
func TestWorstMoment(t *testing.T) {
	uneven := beams(1000, 1600)
	for _, x := range []struct {
		what  string
		b     api.Bridge
		train []api.Force
		span  int
		x     int64
		want  api.Effect
		e     api.Errno
	}{
		{"the example", example(), two(), 0, 10000, api.Effect{Value: 2160000000000, Point: 10000, At: 10000}, api.OK},
		{"in the second span", uneven, forces(0, 10, 200, 20), 1, 400, api.Effect{Value: 13600000, Span: 1, Point: 400, At: 1600}, api.OK},
		{"the first axle is greater", uneven, forces(0, 90, 200, 10), 1, 400, api.Effect{Value: 90*480000 + 10*240000, Span: 1, Point: 400, At: 1400}, api.OK},
		{"at the least of equal breaks", uneven, forces(0, 7, 1000, 7, 1600, 7), 0, 500, api.Effect{Value: 7 * 250000, Point: 500, At: 500}, api.OK},
		{"at the least of equal breaks, also of an axle behind", uneven, forces(0, 6, 200, 6), 0, 500, api.Effect{Value: 6 * (250000 + 150000), Point: 500, At: 500}, api.OK},
		{"a point at the beginning", uneven, forces(0, 10, 200, 20), 1, 0, api.Effect{Span: 1, At: 1000}, api.OK},
		{"a point at the end", uneven, forces(0, 10, 200, 20), 1, 1600, api.Effect{Span: 1, Point: 1600, At: 1000}, api.OK},
		{"no loads", uneven, forces(0, 0, 200, 0), 1, 400, api.Effect{Span: 1, Point: 400, At: 1000}, api.OK},
		{"a point before the span", uneven, two(), 0, -1, api.Effect{}, api.ErrRange},
		{"a point behind the span", uneven, two(), 0, 1001, api.Effect{}, api.ErrRange},
		{"any point", uneven, two(), 0, math.MaxInt64, api.Effect{}, api.ErrRange},
		{"no such span", uneven, two(), 2, -1, api.Effect{}, api.ErrNone},
		{"a span below 0", uneven, two(), -1, -1, api.Effect{}, api.ErrNone},
		{"no train", uneven, nil, 2, -1, api.Effect{}, api.ErrMany},
		{"a train that is not valid", uneven, forces(0, -1), 2, -1, api.Effect{}, api.ErrArg},
		{"a bridge that is not valid", beams(99), nil, 2, -1, api.Effect{}, api.ErrArg},
	} {
		got, e := bridge.WorstMoment(x.b, x.train, x.span, x.x)
		check(t, x.what, got, e, x.want, x.e)
	}
}

// P6.4
func TestWorstEnd(t *testing.T) {
	uneven := beams(1000, 1600)
	for _, x := range []struct {
		what  string
		b     api.Bridge
		train []api.Force
		span  int
		right bool
		want  api.Effect
		e     api.Errno
	}{
		{"the example", example(), two(), 0, false, api.Effect{Value: 456000000, At: 2000}, api.OK},
		{"left", uneven, forces(0, 10, 200, 20), 1, false, api.Effect{Value: 10*1400 + 20*1600, Span: 1, At: 1200}, api.OK},
		{"right, the first axle at the end", uneven, forces(0, 10, 200, 20), 1, true, api.Effect{Value: 10*1600 + 20*1400, Span: 1, Point: 1600, At: 2600}, api.OK},
		{"right, the second axle at the end", uneven, forces(0, 1, 200, 20), 1, true, api.Effect{Value: 20 * 1600, Span: 1, Point: 1600, At: 2800}, api.OK},
		{"left, at the least of equal breaks", uneven, forces(0, 7, 1000, 7, 2000, 7), 0, false, api.Effect{Value: 7000, At: 0}, api.OK},
		{"right, at the least of equal breaks", uneven, forces(0, 7, 1000, 7, 2000, 7), 0, true, api.Effect{Value: 7000, Point: 1000, At: 1000}, api.OK},
		{"left, no loads", uneven, forces(0, 0), 1, false, api.Effect{Span: 1, At: 1000}, api.OK},
		{"right, no loads", uneven, forces(0, 0), 1, true, api.Effect{Span: 1, Point: 1600, At: 1000}, api.OK},
		{"no such span", uneven, two(), 2, true, api.Effect{}, api.ErrNone},
		{"a span below 0", uneven, two(), math.MinInt, true, api.Effect{}, api.ErrNone},
		{"no train", uneven, nil, 2, true, api.Effect{}, api.ErrMany},
		{"no bridge", api.Bridge{}, forces(0, -1), 2, true, api.Effect{}, api.ErrMany},
	} {
		got, e := bridge.WorstEnd(x.b, x.train, x.span, x.right)
		check(t, x.what, got, e, x.want, x.e)
	}
}

// P6.5
func TestWorstPier(t *testing.T) {
	three := beams(500, 1000, 2000)
	for _, x := range []struct {
		what  string
		b     api.Bridge
		train []api.Force
		k     int
		want  api.Effect
		e     api.Errno
	}{
		{"one axle", three, forces(0, 3), 1, api.Effect{Value: 6000000, Span: 1, At: 1500}, api.OK},
		{"the first pier", three, forces(0, 3), 0, api.Effect{Value: 1500000, At: 500}, api.OK},
		{"the second axle", three, forces(0, 3, 600, 5), 1, api.Effect{Value: 3*1400000 + 5*2000000, Span: 1, At: 2100}, api.OK},
		{"at the least of equal breaks", three, forces(0, 3, 3000, 3), 1, api.Effect{Value: 6000000, Span: 1, At: 1500}, api.OK},
		{"no loads", three, forces(0, 0, 600, 0), 1, api.Effect{Span: 1, At: 500}, api.OK},
		{"no such pier", three, two(), 2, api.Effect{}, api.ErrNone},
		{"a pier below 0", three, two(), -1, api.Effect{}, api.ErrNone},
		{"any pier", three, two(), math.MaxInt, api.Effect{}, api.ErrNone},
		{"no pier at all", beams(1000), two(), 0, api.Effect{}, api.ErrNone},
		{"no train", three, nil, 2, api.Effect{}, api.ErrMany},
		{"no bridge", api.Bridge{}, forces(0, -1), 2, api.Effect{}, api.ErrMany},
	} {
		got, e := bridge.WorstPier(x.b, x.train, x.k)
		check(t, x.what, got, e, x.want, x.e)
	}
}

// P6.4, P6.5: bridges and trains of all kinds, against the words of the chapter.
func TestWorstAny(t *testing.T) {
	r := chance(3)
	for range 1500 {
		most := from(r, 100, 1<<from(r, 7, 17))
		b := anyBridge(r, 6, most)
		train := anyTrain(r, 1+r.Int64N(16), from(r, 0, min(2*most, 1<<18)), 1<<from(r, 0, 20))
		span := r.IntN(len(b.Spans))
		length := b.Spans[span]
		x := from(r, 0, length)
		got, e := bridge.WorstMoment(b, train, span, x)
		check(t, "a moment", got, e, worstEffectOf(momentOf(b, span, x), train, span, x), api.OK)
		got, e = bridge.WorstEnd(b, train, span, false)
		check(t, "a left end", got, e, worstEffectOf(endOf(b, span, false), train, span, 0), api.OK)
		got, e = bridge.WorstEnd(b, train, span, true)
		check(t, "a right end", got, e, worstEffectOf(endOf(b, span, true), train, span, length), api.OK)
		if span > 0 {
			got, e = bridge.WorstPier(b, train, span-1)
			check(t, "a pier", got, e, worstEffectOf(pierOf(b, span-1), train, span-1, 0), api.OK)
		}
	}
}

// P6.6
func TestMoments(t *testing.T) {
	for _, x := range []struct {
		what  string
		b     api.Bridge
		train []api.Force
		want  []api.Effect
		e     api.Errno
	}{
		{"the example; at 5,625 of the second span it is as much as at 4,375", example(), two(), []api.Effect{
			{Value: 2160000000000, Point: 10000, At: 10000},
			{Value: 12000 * 4375 * (5625 + 3625), Span: 1, Point: 4375, At: 26375},
		}, api.OK},
		{"one axle", beams(1600, 800), forces(0, 3), []api.Effect{{Value: 1920000, Point: 800, At: 800}, {Value: 480000, Span: 1, Point: 400, At: 2000}}, api.OK},
		{"no loads: the first point", beams(1600, 100), forces(0, 0), []api.Effect{{Point: 100}, {Span: 1, Point: 6, At: 1600}}, api.OK},
		{"no train", beams(1600), nil, nil, api.ErrMany},
		{"a train that is not valid", beams(1600), forces(0, 1<<21), nil, api.ErrArg},
		{"no bridge", api.Bridge{}, forces(0, -1), nil, api.ErrMany},
	} {
		got, e := bridge.Moments(x.b, x.train)
		checkList(t, x.what, got, e, x.want, x.e)
	}
}

// P6.6: as many axles at equal distances on either side of the middle have equal worst moments at two points; the first
// one is meant.
func TestMomentsOfEqualPoints(t *testing.T) {
	b, train := beams(1600), forces(0, 1, 400, 1)
	left := must[api.Effect](t, "left")(bridge.WorstMoment(b, train, 0, 700))
	right := must[api.Effect](t, "right")(bridge.WorstMoment(b, train, 0, 900))
	if left.Value != right.Value {
		t.Fatalf("%v and %v", left, right)
	}
	got, e := bridge.Moments(b, train)
	checkList(t, "of equal points", got, e, []api.Effect{left}, api.OK)
}

// P6.6: bridges and trains of all kinds, against the words of the chapter.
func TestMomentsAny(t *testing.T) {
	r := chance(4)
	for range 200 {
		most := from(r, 100, 1<<from(r, 7, 17))
		b := anyBridge(r, 6, most)
		train := anyTrain(r, 1+r.Int64N(12), from(r, 0, min(2*most, 1<<18)), 1<<from(r, 0, 20))
		var want []api.Effect
		for span, length := range b.Spans {
			var all []api.Effect
			for _, x := range pointsOf(length) {
				all = append(all, worstEffectOf(momentOf(b, span, x), train, span, x))
			}
			values := []int64{}
			for _, e := range all {
				values = append(values, e.Value)
			}
			want = append(want, all[slices.Index(values, slices.Max(values))])
		}
		got, e := bridge.Moments(b, train)
		checkList(t, "any", got, e, want, api.OK)
	}
}
