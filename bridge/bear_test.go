package bridge_test

import (
	"math"
	"slices"
	"testing"

	"gooseneck/api"
	"gooseneck/bridge"
)

// beam returns a bridge of one span of 1,600 that bears a moment and a shear, with 2 other lanes of 100 kg per metre: an
// axle of 1,000 does 400 kg metres in the middle and 1,000 kg at an end, and the traffic 64 kg metres and 160 kg more.
func beam(moment, shear int64) api.Bridge {
	return api.Bridge{Spans: []int64{1600}, Moment: []int64{moment}, Shear: []int64{shear}, Lanes: 3, Traffic: 100}
}

// lanes returns a bridge with other lanes, dynamics and traffic.
func lanes(b api.Bridge, n int, dynamic, traffic int64) api.Bridge {
	b.Lanes, b.Dynamic, b.Traffic = n, dynamic, traffic
	return b
}

// P6.7
func TestBears(t *testing.T) {
	one := forces(0, 1000)
	middle := api.Effect{Value: 640000000, Point: 800, At: 800}
	left := api.Effect{Value: 1600000, Point: -1}
	for _, x := range []struct {
		what    string
		b       api.Bridge
		train   []api.Force
		traffic bool
		want    api.Effect
		e       api.Errno
	}{
		{"the example alone", example(), two(), false, api.Effect{}, api.OK},
		{"the example with traffic", example(), two(), true, api.Effect{}, api.OK},
		{"a moment at the limit", beam(400, 1000), one, false, api.Effect{}, api.OK},
		{"a moment above the limit", beam(399, 1000), one, false, middle, api.ErrLimit},
		{"an end above the limit", beam(400, 999), one, false, left, api.ErrLimit},
		{"a moment at the limit with traffic", beam(464, 1160), one, true, api.Effect{}, api.OK},
		{"a moment above the limit with traffic", beam(463, 1160), one, true, middle, api.ErrLimit},
		{"an end above the limit with traffic", beam(464, 1159), one, true, left, api.ErrLimit},
		{"one lane has no other traffic", lanes(beam(400, 1000), 1, 0, 4096), one, true, api.Effect{}, api.OK},
		{"a moment at the limit with dynamics", lanes(beam(500, 2000), 3, 250, 100), one, false, api.Effect{}, api.OK},
		{"a moment above the limit with dynamics", lanes(beam(500, 2000), 3, 251, 100), one, false, middle, api.ErrLimit},
		{"an end at the limit with dynamics", lanes(beam(999, 1251), 3, 251, 100), one, false, api.Effect{}, api.OK},
		{"an end above the limit with dynamics", lanes(beam(999, 1250), 3, 251, 100), one, false, left, api.ErrLimit},
		{"dynamics are not for the traffic", lanes(beam(564, 1410), 3, 250, 100), one, true, api.Effect{}, api.OK},
		{"the traffic alone", beam(1, 1), forces(0, 0), true, api.Effect{Point: 100}, api.ErrLimit},
		{"the greatest traffic, borne", lanes(beam(3933, 9831), 4, 1000, 4096), forces(0, 0), true, api.Effect{}, api.OK},
		{"the greatest traffic, a moment", lanes(beam(3932, 9831), 4, 1000, 4096), forces(0, 0), true, api.Effect{Point: 800}, api.ErrLimit},
		{"the greatest traffic, an end", lanes(beam(3933, 9830), 4, 1000, 4096), forces(0, 0), true, api.Effect{Point: -1}, api.ErrLimit},
		{"no train", beam(1, 1), nil, true, api.Effect{}, api.ErrMany},
		{"a train that is not valid", beam(1, 1), forces(1, 1), true, api.Effect{}, api.ErrArg},
		{"no bridge", api.Bridge{}, forces(1, 1), true, api.Effect{}, api.ErrMany},
		{"a bridge that is not valid", beam(0, 1), nil, true, api.Effect{}, api.ErrArg},
	} {
		got, e := bridge.Bears(x.b, x.train, x.traffic)
		check(t, x.what, got, e, x.want, x.e)
	}
}

// P6.7: the first thing that is not borne: span by span, the moments in order, then the left end, and then the right one.
func TestBearsFirst(t *testing.T) {
	// A load that comes first does more at the right end, where the second one is still on the span.
	first, last := forces(0, 1000, 800, 200), forces(0, 200, 800, 1000)
	most := int64(api.MaxBear)
	for _, x := range []struct {
		what  string
		b     api.Bridge
		train []api.Force
		want  api.Effect
	}{
		{"the first point", beam(1, 1), first, api.Effect{Value: 1000 * 100 * 1500, Point: 100, At: 100}},
		{"a later point", beam(230, 1), forces(0, 1000), api.Effect{Value: 1000 * 300 * 1300, Point: 300, At: 300}},
		{"the left end before the right one", beam(most, 1), first, api.Effect{Value: 1000 * 1600, Point: -1}},
		{"the left end alone", beam(most, 1099), last, api.Effect{Value: 200*800 + 1000*1600, Point: -1, At: 800}},
		{"the right end alone", beam(most, 1099), first, api.Effect{Value: 1000*1600 + 200*800, Point: -2, At: 1600}},
	} {
		got, e := bridge.Bears(x.b, x.train, false)
		check(t, x.what, got, e, x.want, api.ErrLimit)
	}
	b := api.Bridge{Spans: []int64{1600, 1600}, Moment: []int64{1000, 1}, Shear: []int64{1, 1}, Lanes: 1}
	got, e := bridge.Bears(b, forces(0, 1000), false)
	check(t, "the ends of a span before the moments of the next one", got, e, api.Effect{Value: 1600000, Point: -1}, api.ErrLimit)
	b.Shear[0] = 1000
	got, e = bridge.Bears(b, forces(0, 1000), false)
	check(t, "in the second span", got, e, api.Effect{Value: 1000 * 100 * 1500, Span: 1, Point: 100, At: 1700}, api.ErrLimit)
	b.Moment[1] = 1000
	got, e = bridge.Bears(b, forces(0, 1000), false)
	check(t, "the left end of the second span", got, e, api.Effect{Value: 1600000, Span: 1, Point: -1, At: 1600}, api.ErrLimit)
	b.Shear[1] = 1000
	got, e = bridge.Bears(b, forces(0, 1000), false)
	check(t, "nothing", got, e, api.Effect{}, api.OK)
}

// P6.7: both numbers are rounded up before they are added.
func TestBearsRounding(t *testing.T) {
	b := api.Bridge{Spans: []int64{1601}, Moment: []int64{api.MaxBear}, Shear: []int64{2002}, Dynamic: 1, Lanes: 2, Traffic: 1}
	// At the left end 2,000 and 2 thousandths of them are 2,002; the traffic does 1,601 / 2,000: 1.
	got, e := bridge.Bears(b, forces(0, 2000), true)
	check(t, "an end", got, e, api.Effect{Value: 2000 * 1601, Point: -1}, api.ErrLimit)
	b.Shear[0] = 2003
	got, e = bridge.Bears(b, forces(0, 2000), true)
	check(t, "an end that is borne", got, e, api.Effect{}, api.OK)
	b.Shear[0] = 2002
	// 1,999 and their thousandths are 2,000.999: 2,001.
	got, e = bridge.Bears(b, forces(0, 1999), true)
	check(t, "an end that is rounded", got, e, api.Effect{}, api.OK)
	b.Shear[0] = 2001
	got, e = bridge.Bears(b, forces(0, 1999), true)
	check(t, "an end that is rounded up", got, e, api.Effect{Value: 1999 * 1601, Point: -1}, api.ErrLimit)
}

// P6.7: the greatest bridges and trains, of which products need more than 64 bits.
func TestBearsGreatest(t *testing.T) {
	b := lanes(beams(slices.Repeat([]int64{1 << 17}, 6)...), 4, 1000, 4096)
	train := forcesAt0(64, 1<<20)
	for _, traffic := range []bool{false, true} {
		want, wantErr := bearsOf(b, train, traffic)
		got, e := bridge.Bears(b, train, traffic)
		check(t, "the greatest", got, e, want, wantErr)
	}
	// In the middle 2^58 doubled are 2^42 kg millimetres; 2^30 kg metres are less.
	got, e := bridge.Bears(b, train, false)
	if e != api.ErrLimit || got.Span != 0 || got.Point >= 1<<16 {
		t.Errorf("%v, %d", got, e)
	}
}

// P6.7: bridges and trains of all kinds, against the words of the chapter.
func TestBearsAny(t *testing.T) {
	r := chance(5)
	kinds := map[api.Effect]int{}
	for range 3000 {
		most := from(r, 100, 1<<from(r, 7, 17))
		b := anyBridge(r, 3, most)
		train := anyTrain(r, 1+r.Int64N(6), from(r, 0, min(2*most, 1<<18)), 1<<from(r, 0, 20))
		if r.IntN(3) > 0 {
			fit(b, train, from(r, 900, 1300))
		}
		traffic := r.IntN(2) == 0
		want, wantErr := bearsOf(b, train, traffic)
		got, e := bridge.Bears(b, train, traffic)
		check(t, "any", got, e, want, wantErr)
		kinds[api.Effect{Span: got.Span, Point: min(got.Point, 1)}]++
	}
	for _, kind := range []api.Effect{{}, {Point: 1}, {Point: -1}, {Point: -2}, {Span: 1, Point: 1}, {Span: 1, Point: -1}, {Span: 1, Point: -2}} {
		if kinds[kind] < 10 {
			t.Errorf("only %d times %v", kinds[kind], kind)
		}
	}
}

// fit makes a bridge bear about so many thousandths of what a train does.
func fit(b api.Bridge, t []api.Force, thousandths int64) {
	part := func(value, divisor int64) int64 {
		return min(api.MaxBear, 1+value/divisor*thousandths/1000*(1000+b.Dynamic)/1000)
	}
	for span, length := range b.Spans {
		middle, _ := bridge.WorstMoment(b, t, span, length/2)
		end, _ := bridge.WorstEnd(b, t, span, false)
		b.Moment[span], b.Shear[span] = part(middle.Value, length*1000), part(end.Value, length)
	}
}

// P6.7
func TestMost(t *testing.T) {
	one, heavy := forces(0, 1000), int64(1<<18)
	for _, x := range []struct {
		what    string
		b       api.Bridge
		train   []api.Force
		traffic bool
		want    int64
		e       api.Errno
	}{
		{"the example alone", example(), two(), false, 1543, api.OK},
		{"at the limit", beam(400, 9999), one, false, 1000, api.OK},
		{"above the limit", beam(399, 9999), one, false, 997, api.OK},
		{"with dynamics", lanes(beam(400, 1000), 3, 250, 100), one, false, 800, api.OK},
		{"an end", beam(400, 700), one, false, 700, api.OK},
		{"with traffic", beam(464, 9999), one, true, 1000, api.OK},
		{"an end with traffic", beam(464, 860), one, true, 700, api.OK},
		{"as much as can be", beam(1600, 4000), one, false, 4000, api.OK},
		{"more than can be", beam(api.MaxBear, api.MaxBear), one, false, 4000, api.OK},
		{"one less than can be", beam(1600, 3999), one, false, 3999, api.OK},
		{"loads are rounded up", beam(400, 1000), forces(0, 1001), false, 999, api.OK},
		{"a load of 1 is 1 for each thousandth but 0", beam(1, 1), forces(0, 1), false, 1000, api.OK},
		{"nothing but 0", beam(1, 1), forces(0, 10000), false, 0, api.OK},
		{"nothing of a load of 2", lanes(beam(1, 1), 1, 1, 0), forces(0, 2), false, 0, api.OK},
		{"the traffic alone just so", beam(64, 160), one, true, 0, api.OK},
		{"the traffic alone is too much for the moment", beam(63, 160), one, true, 0, api.ErrLimit},
		{"the traffic alone is too much for an end", beam(64, 159), one, true, 0, api.ErrLimit},
		{"no loads", beam(1, 1), forces(0, 0, 5, 0), false, 4000, api.OK},
		{"no loads, and the traffic is too much", beam(1, 1), forces(0, 0), true, 0, api.ErrLimit},
		{"the greatest load", beam(api.MaxBear, api.MaxBear), forces(0, heavy), false, 4000, api.OK},
		{"a load above it", beam(api.MaxBear, api.MaxBear), forces(0, 1, 5, heavy+1), false, 0, api.ErrOver},
		{"the greatest load, when multiplied, is too much", beam(1, 1), forces(0, heavy), true, 0, api.ErrLimit},
		{"a load above it, and the traffic is too much", beam(1, 1), forces(0, heavy+1), true, 0, api.ErrOver},
		{"no train", beam(1, 1), nil, true, 0, api.ErrMany},
		{"a train that is not valid", beam(1, 1), forces(0, math.MaxInt64), true, 0, api.ErrArg},
		{"no bridge", api.Bridge{}, forces(0, -1), true, 0, api.ErrMany},
	} {
		got, e := bridge.Most(x.b, x.train, x.traffic)
		check(t, x.what, got, e, x.want, x.e)
	}
}

// P6.7, P6.12: bridges and trains of all kinds: what Most says is borne, and one thousandth more is not.
func TestMostAny(t *testing.T) {
	r := chance(6)
	between, none := 0, 0
	for range 400 {
		most := from(r, 100, 1<<from(r, 7, 17))
		b := anyBridge(r, 3, most)
		train := anyTrain(r, 1+r.Int64N(5), from(r, 0, min(2*most, 1<<18)), 1<<from(r, 0, 18))
		if r.IntN(3) > 0 {
			fit(b, train, from(r, 1, 5000))
		}
		traffic := r.IntN(2) == 0
		n, e := bridge.Most(b, train, traffic)
		_, atNone := bearsOf(b, multipliedOf(train, 0), traffic)
		if e != api.OK || atNone != api.OK {
			none++
			check(t, "none", n, e, 0, api.ErrLimit)
			checkErr(t, "none", atNone, api.ErrLimit)
			continue
		}
		if _, e := bearsOf(b, multipliedOf(train, n), traffic); e != api.OK {
			t.Errorf("%v does not bear %d of %v", b, n, train)
		}
		if n == 4000 {
			continue
		}
		between++
		if _, e := bearsOf(b, multipliedOf(train, n+1), traffic); e != api.ErrLimit {
			t.Errorf("%v bears more than %d of %v", b, n, train)
		}
	}
	if between < 100 || none < 20 {
		t.Errorf("%d are between, and %d are none", between, none)
	}
}
