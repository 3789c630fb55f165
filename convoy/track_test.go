package convoy_test

import (
	"math/rand/v2"
	"slices"
	"testing"

	"gooseneck/api"
	"gooseneck/convoy"
)

const far = api.MaxPlace

// corner is a guide with a corner.
func corner() []api.Point { return []api.Point{{}, {X: 100}, {X: 100, Y: 100}} }

// spot is what Off returns but its error.
type spot struct {
	Gap   int64
	Piece int
}

func off(guide []api.Point, p api.Point) (spot, api.Errno) {
	n, i, e := convoy.Off(guide, p)
	return spot{n, i}, e
}

func fix(at, x, y int64) api.Fix { return api.Fix{At: at, P: api.Point{X: x, Y: y}} }

// P10.6
func TestOff(t *testing.T) {
	slope := []api.Point{{}, {X: 30, Y: 10}}
	back := []api.Point{{X: 0}, {X: 100}, {X: 100}, {X: 0}, {X: 100, Y: 50}}
	spot0 := []api.Point{{X: 5, Y: 5}, {X: 5, Y: 5}}
	for _, x := range []struct {
		guide []api.Point
		p     api.Point
		want  spot
	}{
		{corner(), api.Point{X: 50, Y: 7}, spot{7, 0}},
		{corner(), api.Point{X: 50, Y: -7}, spot{7, 0}},
		{corner(), api.Point{X: 50}, spot{0, 0}},
		{corner(), api.Point{X: 100}, spot{0, 0}},
		{corner(), api.Point{X: 100, Y: 1}, spot{0, 1}},
		{corner(), api.Point{X: 90, Y: 10}, spot{10, 0}},
		{corner(), api.Point{X: 90, Y: 11}, spot{10, 1}},
		{corner(), api.Point{X: 110, Y: -10}, spot{10, 0}},
		{corner(), api.Point{X: 110, Y: 10}, spot{10, 0}},
		{corner(), api.Point{X: 110, Y: 11}, spot{10, 1}},
		{corner(), api.Point{X: -4, Y: -3}, spot{4, 0}},
		{corner(), api.Point{X: 130, Y: 120}, spot{30, 1}},
		{slope, api.Point{X: 15, Y: 5}, spot{0, 0}},
		{slope, api.Point{X: 14, Y: 5}, spot{1, 0}},
		{slope, api.Point{X: 11, Y: 5}, spot{1, 0}},
		{slope, api.Point{X: 10, Y: 5}, spot{2, 0}},
		{slope, api.Point{X: -2, Y: -5}, spot{5, 0}},
		{back, api.Point{X: 50}, spot{0, 0}},
		{back, api.Point{X: 50, Y: 25}, spot{0, 3}},
		{back, api.Point{X: 100, Y: 2}, spot{2, 0}},
		{spot0, api.Point{X: 5, Y: 5}, spot{0, 0}},
		{spot0, api.Point{X: 2, Y: 9}, spot{4, 0}},
		{[]api.Point{{X: -far, Y: -far}, {X: -far, Y: far}}, api.Point{X: far}, spot{2 * far, 0}},
		{[]api.Point{{X: -far, Y: -far}, {X: -far, Y: far}, {X: far, Y: far}}, api.Point{X: far, Y: -far}, spot{2 * far, 0}},
		{[]api.Point{{X: -far, Y: -far}, {X: far, Y: far}}, api.Point{X: far, Y: -far}, spot{far, 0}},
	} {
		got, e := off(x.guide, x.p)
		check(t, "Off of "+shown(x.p), got, e, x.want, api.OK)
		backward := slices.Clone(x.guide)
		slices.Reverse(backward)
		got, e = off(backward, x.p)
		if got.Gap != x.want.Gap || e != api.OK {
			t.Errorf("Off of %v, backward: %v, %d", x.p, got, e)
		}
	}
}

// badGuides are guides with their errors.
func badGuides() map[string]struct {
	guide []api.Point
	want  api.Errno
} {
	type bad = struct {
		guide []api.Point
		want  api.Errno
	}
	outside := append(corner(), api.Point{X: far + 1})
	return map[string]bad{
		"no points":                          {nil, api.ErrNone},
		"one point":                          {corner()[:1], api.ErrMany},
		"one point that is not valid":        {outside[3:], api.ErrArg},
		"257 points":                         {make([]api.Point, 257), api.ErrMany},
		"257 points of which one is outside": {slices.Repeat(outside[3:], 257), api.ErrMany},
		"a point outside":                    {outside, api.ErrArg},
		"a point far outside":                {[]api.Point{{Y: extremes[0]}, {}}, api.ErrArg},
		"256 points":                         {make([]api.Point, 256), api.OK},
		"2 points":                           {[]api.Point{{X: far, Y: -far}, {X: -far, Y: far}}, api.OK},
	}
}

// P10.6: the errors of Off.
func TestOffErrors(t *testing.T) {
	for what, x := range badGuides() {
		for _, p := range []api.Point{{}, {X: far + 1}, {X: far, Y: -far - 1}, {Y: extremes[0]}} {
			want := x.want
			if want == api.OK && p != (api.Point{}) {
				want = api.ErrArg
			}
			got, e := off(x.guide, p)
			if e != want || e != api.OK && got != (spot{}) {
				t.Errorf("%s, and %v: %v, %d, want %d", what, p, got, e, want)
			}
		}
	}
}

// P10.6
func TestTrack(t *testing.T) {
	type fixes = []api.Fix
	late := fixes{fix(1, 0, 0), fix(2, 100, 50)}
	for _, x := range []struct {
		what string
		most int64
		l    fixes
		n    int
		want api.Errno
	}{
		{"along the guide", 5, fixes{fix(1, 0, 5), fix(1, 60, -5), fix(3, 105, 50)}, 3, api.OK},
		{"backward on a piece", 5, fixes{fix(1, 60, 0), fix(2, 20, 0)}, 2, api.OK},
		{"no fixes", 5, nil, 0, api.OK},
		{"no way off", 0, late, 2, api.OK},
		{"a long way off", far, fixes{fix(0, -far, 0), fix(greatest, 100, far)}, 2, api.OK},
		{"a way off below 0", -1, late, 0, api.ErrRange},
		{"too long a way off", far + 1, late, 0, api.ErrRange},
		{"too long a way off, and too many fixes", far + 1, make(fixes, 257), 0, api.ErrRange},
		{"256 fixes", 0, make(fixes, 256), 256, api.OK},
		{"too many fixes", 0, make(fixes, 257), 0, api.ErrMany},
		{"too many fixes that are not valid", 0, slices.Repeat(fixes{fix(-1, 0, 0)}, 257), 0, api.ErrMany},
		{"a fix too far off", 5, fixes{fix(1, 0, 5), fix(2, 60, 6)}, 1, api.ErrLimit},
		{"the first fix too far off", 0, fixes{fix(1, 0, 1), fix(-1, 60, 0)}, 0, api.ErrLimit},
		{"an older fix", 5, fixes{fix(2, 0, 5), fix(1, 60, 0)}, 1, api.ErrOld},
		{"an older fix, too far off", 5, fixes{fix(2, 0, 5), fix(1, 60, 6)}, 1, api.ErrOld},
		{"an older fix behind an equal one", 5, fixes{fix(2, 0, 5), fix(2, 60, 0), fix(1, 60, 0)}, 2, api.ErrOld},
		{"a piece before", 5, fixes{fix(1, 100, 50), fix(2, 60, 0)}, 1, api.ErrState},
		{"a piece before, too far off", 5, fixes{fix(1, 100, 50), fix(2, 60, -6)}, 1, api.ErrLimit},
		{"a piece before at the corner", 5, fixes{fix(1, 100, 1), fix(2, 100, 0)}, 1, api.ErrState},
		{"at -1", 5, fixes{fix(1, 0, 0), fix(-1, 0, 0)}, 1, api.ErrArg},
		{"at too late a time", 5, fixes{fix(greatest+1, 0, 0)}, 0, api.ErrArg},
		{"out of the place", 5, fixes{fix(1, 0, 0), fix(2, 60, 0), fix(0, far+1, 0)}, 2, api.ErrArg},
		{"out of the place below", 5, fixes{fix(1, 0, -far-1)}, 0, api.ErrArg},
		{"far out of the place", 5, fixes{fix(extremes[0], extremes[0], extremes[0])}, 0, api.ErrArg},
		{"one wrong, and then another one", 5, fixes{fix(1, 0, 0), fix(0, 0, 0), fix(-1, 0, 0)}, 1, api.ErrOld},
	} {
		n, e := convoy.Track(corner(), x.most, x.l)
		check(t, x.what, n, e, x.n, x.want)
	}
	for what, x := range badGuides() {
		for _, most := range []int64{far, -1} {
			want := x.want
			if want == api.OK && most < 0 {
				want = api.ErrRange
			}
			n, e := convoy.Track(x.guide, most, make(fixes, 300))
			if want == api.OK {
				want = api.ErrMany
			}
			check(t, what, n, e, 0, want)
		}
	}
}

// anyGuide returns a guide; its points are not far from each other.
func anyGuide(r *rand.Rand) []api.Point {
	at := api.Point{X: pick[int64](r, -far, 0, far), Y: pick[int64](r, -far, 0, far)}
	var l []api.Point
	for range from(r, 2, 7) {
		l = append(l, nearTo(r, at, 25))
	}
	return l
}

// nearTo returns a valid point that is within t of another one, in X and in Y.
func nearTo(r *rand.Rand, p api.Point, t int64) api.Point {
	clamp := func(n int64) int64 { return max(-far, min(n, far)) }
	return api.Point{X: clamp(p.X + from(r, -t, t)), Y: clamp(p.Y + from(r, -t, t))}
}

// P10.6: any points, against the definition.
func TestOffAny(t *testing.T) {
	r := chance(3)
	for range 3000 {
		guide := anyGuide(r)
		p := nearTo(r, guide[r.IntN(len(guide))], 30)
		gap, piece := offOf(guide, p)
		got, e := off(guide, p)
		check(t, "Off of "+shown(p)+" from "+shown(guide), got, e, spot{gap, piece}, api.OK)
	}
}

// P10.6, P10.11: any tracks, fix by fix; if all is right, each point is within most of a point of the guide.
func TestTrackAny(t *testing.T) {
	r := chance(4)
	found := map[api.Errno]int{}
	for range 4000 {
		guide := anyGuide(r)
		most := from(r, 0, 60)
		var l []api.Fix
		var at int64
		for range from(r, 0, 4) {
			at += max(0, from(r, -2, 20))
			i := min(len(l)*len(guide)/4, len(guide)-1)
			l = append(l, api.Fix{At: at - max(0, from(r, -20, 2)), P: nearTo(r, guide[i], pick[int64](r, 1, 1, 30))})
		}
		n, e := convoy.Track(guide, most, l)
		want, wantErr := len(l), api.OK
		last := spot{}
		for i := 0; i < len(l) && wantErr == api.OK; i++ {
			now, _ := off(guide, l[i].P)
			switch {
			case l[i].At < 0:
				wantErr = api.ErrArg
			case i > 0 && l[i].At < l[i-1].At:
				wantErr = api.ErrOld
			case now.Gap > most:
				wantErr = api.ErrLimit
			case now.Piece < last.Piece:
				wantErr = api.ErrState
			}
			last = now
			if wantErr != api.OK {
				want = i
			}
		}
		check(t, "Track of "+shown(l)+" on "+shown(guide), n, e, want, wantErr)
		found[e]++
		for i := 0; e == api.OK && i < len(l); i++ {
			isIn := func(k int) bool { return isWithin(guide[k], guide[k+1], l[i].P, most) }
			if !slices.ContainsFunc(upTo(len(guide)-1), isIn) {
				t.Errorf("%v is not within %d of %v", l[i].P, most, guide)
			}
		}
	}
	for _, e := range []api.Errno{api.OK, api.ErrArg, api.ErrOld, api.ErrLimit, api.ErrState} {
		if found[e] < 30 {
			t.Errorf("Track has ended with the error %d only %d times", e, found[e])
		}
	}
}

// P1: the longest track on the longest guide ends soon.
func TestLongTrack(t *testing.T) {
	var guide []api.Point
	var l []api.Fix
	for i := range int64(256) {
		guide = append(guide, api.Point{X: 1000 * i, Y: i % 7 * 1000})
		l = append(l, fix(i, 1000*i, 3000))
	}
	n, e := convoy.Track(guide, 10000, l)
	if e != api.OK && e != api.ErrState {
		t.Errorf("%d, %d", n, e)
	}
}
