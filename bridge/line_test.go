package bridge_test

import (
	"math"
	"testing"

	"gooseneck/api"
	"gooseneck/bridge"
)

// P6.3
func TestLine(t *testing.T) {
	uneven := beams(1000, 1600)
	for _, x := range []struct {
		what string
		b    api.Bridge
		span int
		x, a int64
		want int64
		e    api.Errno
	}{
		{"the example", example(), 0, 10000, 5000, 50000000, api.OK},
		{"at the beginning", uneven, 1, 400, 0, 0, api.OK},
		{"before the point", uneven, 1, 400, 399, 399 * 1200, api.OK},
		{"at the point", uneven, 1, 400, 400, 480000, api.OK},
		{"behind the point", uneven, 1, 400, 401, 400 * 1199, api.OK},
		{"at the end", uneven, 1, 400, 1600, 0, api.OK},
		{"before the beginning", uneven, 1, 400, -1, 0, api.OK},
		{"behind the end", uneven, 1, 400, 1601, 0, api.OK},
		{"a point at the beginning", uneven, 1, 0, 800, 0, api.OK},
		{"a point at the beginning, before it", uneven, 1, 0, -800, 0, api.OK},
		{"a point at the end", uneven, 1, 1600, 800, 0, api.OK},
		{"a point at the end, behind it", uneven, 1, 1600, 2000, 0, api.OK},
		{"the greatest one", beams(1 << 17), 0, 1 << 16, 1 << 16, 1 << 32, api.OK},
		{"as far as can be", uneven, 1, 400, 1 << 22, 0, api.OK},
		{"as far back as can be", uneven, 1, 400, -1 << 22, 0, api.OK},
		{"too far", uneven, 1, 400, 1<<22 + 1, 0, api.ErrRange},
		{"too far back", uneven, 1, 400, -1<<22 - 1, 0, api.ErrRange},
		{"any place", uneven, 1, 400, math.MaxInt64, 0, api.ErrRange},
		{"any place below 0", uneven, 1, 400, math.MinInt64, 0, api.ErrRange},
		{"a point before the span", uneven, 1, -1, 0, 0, api.ErrRange},
		{"a point behind the span", uneven, 0, 1001, 0, 0, api.ErrRange},
		{"any point", uneven, 0, math.MinInt64, 0, 0, api.ErrRange},
		{"no such span", uneven, 2, -1, 1 << 23, 0, api.ErrNone},
		{"a span below 0", uneven, -1, -1, 1 << 23, 0, api.ErrNone},
		{"any span", uneven, math.MaxInt, -1, 1 << 23, 0, api.ErrNone},
		{"no bridge", api.Bridge{}, 2, -1, 1 << 23, 0, api.ErrMany},
	} {
		got, e := bridge.Line(x.b, x.span, x.x, x.a)
		check(t, x.what, got, e, x.want, x.e)
	}
}

// P6.3
func TestMoment(t *testing.T) {
	uneven := beams(1000, 1600)
	train := forces(0, 10, 200, 20)
	for _, x := range []struct {
		what  string
		b     api.Bridge
		train []api.Force
		span  int
		x, s  int64
		want  int64
		e     api.Errno
	}{
		{"the example", example(), two(), 0, 10000, 10000, 2160000000000, api.OK},
		{"the second axle at the point", uneven, train, 1, 400, 1600, 10*400000 + 20*480000, api.OK},
		{"the second axle before the span", uneven, train, 1, 400, 1100, 10 * 120000, api.OK},
		{"the first axle behind the span", uneven, train, 0, 400, 1100, 20 * 400 * 100, api.OK},
		{"an axle on each span", uneven, train, 1, 400, 1199, 10 * 199 * 1200, api.OK},
		{"the greatest one", beams(1 << 17), forcesAt0(64, 1<<20), 0, 1 << 16, 1 << 16, 1 << 58, api.OK},
		{"as far as can be", uneven, train, 0, 400, 1 << 22, 0, api.OK},
		{"as far back as can be", uneven, train, 0, 400, -1 << 22, 0, api.OK},
		{"too far", uneven, train, 0, 400, 1<<22 + 1, 0, api.ErrRange},
		{"any place", uneven, train, 0, 400, math.MinInt64, 0, api.ErrRange},
		{"a point behind the span", uneven, train, 0, 1001, 0, 0, api.ErrRange},
		{"no such span", uneven, train, 2, -1, 1 << 23, 0, api.ErrNone},
		{"a span below 0", uneven, train, -1, -1, 1 << 23, 0, api.ErrNone},
		{"no train", uneven, nil, 2, -1, 1 << 23, 0, api.ErrMany},
		{"a train that is not valid", uneven, forces(0, -1), 2, -1, 1 << 23, 0, api.ErrArg},
		{"a bridge that is not valid", beams(99), nil, 2, -1, 1 << 23, 0, api.ErrArg},
	} {
		got, e := bridge.Moment(x.b, x.train, x.span, x.x, x.s)
		check(t, x.what, got, e, x.want, x.e)
	}
}

// forcesAt0 returns a train of n axles at one place.
func forcesAt0(n int, p int64) []api.Force { return repeated(n, 0, p) }

// P6.3
func TestEnd(t *testing.T) {
	uneven := beams(1000, 1600)
	train := forces(0, 10, 200, 20)
	for _, x := range []struct {
		what  string
		b     api.Bridge
		train []api.Force
		span  int
		right bool
		s     int64
		want  int64
		e     api.Errno
	}{
		{"left", uneven, train, 1, false, 1600, 10*1000 + 20*1200, api.OK},
		{"right", uneven, train, 1, true, 1600, 10*600 + 20*400, api.OK},
		{"left, at the beginning", uneven, train, 1, false, 1000, 16000, api.OK},
		{"left, before the beginning", uneven, train, 1, false, 999, 0, api.OK},
		{"left, the second one at the end", uneven, train, 1, false, 2800, 0, api.OK},
		{"right, at the beginning", uneven, train, 1, true, 1000, 0, api.OK},
		{"right, at the end", uneven, train, 1, true, 2600, 16000 + 20*1400, api.OK},
		{"right, behind the end", uneven, train, 1, true, 2601, 20 * 1401, api.OK},
		{"right, the second one at the end", uneven, train, 1, true, 2800, 32000, api.OK},
		{"right, both behind the end", uneven, train, 1, true, 2801, 0, api.OK},
		{"the pier is on both spans", uneven, train, 0, true, 1000, 10000 + 20*800, api.OK},
		{"as far as can be", uneven, train, 0, true, 1 << 22, 0, api.OK},
		{"as far back as can be", uneven, train, 0, false, -1 << 22, 0, api.OK},
		{"too far", uneven, train, 0, true, 1<<22 + 1, 0, api.ErrRange},
		{"too far back", uneven, train, 0, false, -1<<22 - 1, 0, api.ErrRange},
		{"any place", uneven, train, 0, false, math.MinInt64, 0, api.ErrRange},
		{"no such span", uneven, train, 2, true, 1 << 23, 0, api.ErrNone},
		{"a span below 0", uneven, train, -1, false, 1 << 23, 0, api.ErrNone},
		{"no train", uneven, nil, 2, true, 1 << 23, 0, api.ErrMany},
		{"no bridge", api.Bridge{}, forces(0, -1), 2, true, 1 << 23, 0, api.ErrMany},
	} {
		got, e := bridge.End(x.b, x.train, x.span, x.right, x.s)
		check(t, x.what, got, e, x.want, x.e)
	}
}

// P6.5
func TestPier(t *testing.T) {
	three := beams(500, 1000, 2000)
	train := forces(0, 3, 600, 5)
	for _, x := range []struct {
		what  string
		b     api.Bridge
		train []api.Force
		k     int
		s     int64
		want  int64
		e     api.Errno
	}{
		{"at the pier", three, train, 1, 1500, 3*2000000 + 5*2000*400, api.OK},
		{"the second one at the pier", three, train, 1, 2100, 3*1000*1400 + 5*2000000, api.OK},
		{"at the beginning", three, train, 1, 500, 0, api.OK},
		{"behind the beginning", three, train, 1, 501, 3 * 2000, api.OK},
		{"before the beginning", three, train, 1, 499, 0, api.OK},
		{"at the end", three, train, 1, 3500, 5 * 1000 * 600, api.OK},
		{"behind the end", three, train, 1, 4099, 5 * 1000, api.OK},
		{"both behind the end", three, train, 1, 4101, 0, api.OK},
		{"the first pier", three, train, 0, 500, 3 * 500000, api.OK},
		{"the first pier, behind it", three, train, 0, 600, 3*500*900 + 0, api.OK},
		{"the greatest one", beams(1<<17, 1<<17), forcesAt0(64, 1<<20), 0, 1 << 17, 1 << 60, api.OK},
		{"as far as can be", three, train, 1, 1 << 22, 0, api.OK},
		{"as far back as can be", three, train, 1, -1 << 22, 0, api.OK},
		{"too far", three, train, 1, 1<<22 + 1, 0, api.ErrRange},
		{"too far back", three, train, 1, -1<<22 - 1, 0, api.ErrRange},
		{"any place", three, train, 1, math.MinInt64, 0, api.ErrRange},
		{"no such pier", three, train, 2, 1 << 23, 0, api.ErrNone},
		{"a pier below 0", three, train, -1, 1 << 23, 0, api.ErrNone},
		{"any pier", three, train, math.MinInt, 1 << 23, 0, api.ErrNone},
		{"no pier at all", beams(1000), train, 0, 1 << 23, 0, api.ErrNone},
		{"no train", three, nil, 2, 1 << 23, 0, api.ErrMany},
		{"a train that is not valid", three, forces(1, 1), 2, 1 << 23, 0, api.ErrArg},
		{"no bridge", api.Bridge{}, forces(1, 1), 2, 1 << 23, 0, api.ErrMany},
	} {
		got, e := bridge.Pier(x.b, x.train, x.k, x.s)
		check(t, x.what, got, e, x.want, x.e)
	}
}

// P6.3, P6.5: bridges and trains of all kinds, against the words of the chapter.
func TestEffectsAny(t *testing.T) {
	r := chance(2)
	for range 5000 {
		most := from(r, 100, 1<<from(r, 7, 17))
		b := anyBridge(r, 6, most)
		train := anyTrain(r, 64, from(r, 0, min(2*most, 1<<18)), 1<<from(r, 0, 20))
		span := r.IntN(len(b.Spans))
		x, s := from(r, 0, b.Spans[span]), from(r, -most, 8*most)
		got, e := bridge.Moment(b, train, span, x, s)
		check(t, "a moment", got, e, effectOf(momentOf(b, span, x), train, s).Int64(), api.OK)
		for _, right := range []bool{false, true} {
			got, e = bridge.End(b, train, span, right, s)
			check(t, "an end", got, e, effectOf(endOf(b, span, right), train, s).Int64(), api.OK)
		}
		begin := beginOf(b, span)
		got, e = bridge.Line(b, span, x, s-begin)
		check(t, "a line", got, e, momentOf(b, span, x).at(s).Int64(), api.OK)
		if span > 0 {
			got, e = bridge.Pier(b, train, span-1, s)
			check(t, "a pier", got, e, effectOf(pierOf(b, span-1), train, s).Int64(), api.OK)
		}
	}
}
