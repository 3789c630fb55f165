package statics_test

import (
	"math"
	"slices"
	"testing"

	"gooseneck/api"
	"gooseneck/statics"
)

// square is a platform of four supports: two in front in the group 0, behind a left and a right one.
func square() []api.Support {
	return []api.Support{at(0, 100, 0), at(0, -100, 0), at(-400, 100, 1), at(-400, -100, 2)}
}

// P4.6
func TestHeight(t *testing.T) {
	tight := []api.Support{at(0, 0, 0), at(1, 0, 1), at(0, 1, 2)}
	level := [3]int64{500, 500, 500}
	for _, x := range []struct {
		what    string
		p       []api.Support
		filling [3]int64
		ground  []int64
		at      api.Point
		want    int64
		e       api.Errno
	}{
		{"level", corner(), level, []int64{0, 0, 0}, pt(300, 300), 500, api.OK},
		{"one longer", corner(), [3]int64{500, 700, 500}, []int64{0, 0, 0}, pt(300, 300), 560, api.OK},
		{"the ground is higher", corner(), level, []int64{0, 0, 300}, pt(300, 500), 650, api.OK},
		{"the ground is lower", corner(), level, []int64{0, 0, -300}, pt(300, 500), 350, api.OK},
		{"a group shares its filling", square(), [3]int64{1000, 500, 500}, []int64{100, 0, 0, 0}, pt(-200, 0), 525, api.OK},
		{"each number is rounded down", corner(), [3]int64{1, 1, 1}, []int64{0, 0, 0}, pt(300, 300), 0, api.OK},
		{"also below 0", corner(), [3]int64{0, 0, 0}, []int64{-1, -1, -1}, pt(300, 300), -3, api.OK},
		{"parts below 0", corner(), [3]int64{0, 1, 1}, []int64{0, 0, 0}, pt(-1, -1), -2, api.OK},
		{"a part at its limit", tight, [3]int64{7, 5, 3}, []int64{0, 0, 0}, pt(1024, 0), 5*1024 - 7*1023, api.OK},
		{"a part beyond its limit", tight, level, []int64{0, 0, 0}, pt(1025, 0), 0, api.ErrOver},
		{"a part at its limit below 0", tight, [3]int64{7, 5, 3}, []int64{0, 0, 0}, pt(0, -1023), 7*1024 - 3*1023, api.OK},
		{"the last part beyond", tight, level, []int64{0, 0, 0}, pt(1000, -1025), 0, api.ErrOver},
		{"the first part beyond, below 0", tight, level, []int64{0, 0, 0}, pt(1000, 26), 0, api.ErrOver},
		{"the first part at its limit below 0", tight, [3]int64{1, 1, 1}, []int64{0, 0, 0}, pt(1000, 25), 1, api.OK},
		{"other heights than supports", corner(), [3]int64{-1, 0, 0}, []int64{0, 0}, pt(side, 2*side+1), 0, api.ErrEqual},
		{"more heights than supports", corner(), level, []int64{0, 0, 16385, 0}, pt(0, 0), 0, api.ErrEqual},
		{"no heights", corner(), level, nil, pt(0, 0), 0, api.ErrEqual},
		{"the ground at its limits", corner(), level, []int64{-1 << 14, 1 << 14, 1}, pt(1000, 0), 500 + 1<<14, api.OK},
		{"the ground beyond", corner(), level, []int64{0, 0, 1<<14 + 1}, pt(0, 0), 0, api.ErrRange},
		{"the ground beyond, below 0", corner(), level, []int64{-1<<14 - 1, 0, 0}, pt(0, 0), 0, api.ErrRange},
		{"any ground", corner(), level, []int64{0, math.MinInt64, 0}, pt(0, 0), 0, api.ErrRange},
		{"the fillings at their limits", corner(), [3]int64{0, 196608, 0}, []int64{0, 0, 0}, pt(1000, 0), 196608, api.OK},
		{"a filling beyond", corner(), [3]int64{0, 196609, 0}, []int64{0, 0, 0}, pt(0, 0), 0, api.ErrRange},
		{"a filling below 0", corner(), [3]int64{0, 0, -1}, []int64{0, 0, 0}, pt(0, 0), 0, api.ErrRange},
		{"any filling", corner(), [3]int64{math.MaxInt64, 0, 0}, []int64{0, 0, 0}, pt(0, 0), 0, api.ErrRange},
		{"no platform", corner()[1:], [3]int64{-1, 0, 0}, nil, pt(0, 2*side+1), 0, api.ErrMany},
	} {
		got, e := statics.Height(x.p, x.filling, x.ground, x.at)
		check(t, x.what, got, e, x.want, x.e)
	}
	for _, at := range beyond() {
		got, e := statics.Height(tight, level, []int64{0, 0, 0}, at)
		check(t, "beyond", got, e, 0, api.ErrRange)
	}
	for _, at := range corners() {
		got, e := statics.Height(tight, level, []int64{0, 0, 0}, at)
		check(t, "at the limit", got, e, 0, api.ErrOver)
	}
}

// P4.6
func TestStrokes(t *testing.T) {
	// Three supports whose middles are close together, and two far away that have the group 0 there, too.
	far := func(x int64) []api.Support {
		return stroked([]api.Support{at(0, 0, 0), at(3, 0, 1), at(0, 3, 2), at(x, 0, 0), at(-x, 0, 0)})
	}
	for _, x := range []struct {
		what    string
		p       []api.Support
		filling [3]int64
		ground  []int64
		want    []int64
		e       api.Errno
	}{
		{"level", square(), [3]int64{1000, 500, 500}, []int64{0, 0, 0, 0}, []int64{500, 500, 500, 500}, api.OK},
		{"one is higher", square(), [3]int64{1000, 500, 500}, []int64{100, 0, 0, 0}, []int64{450, 550, 500, 500}, api.OK},
		{"at both limits", square(), [3]int64{1000, 100, 900}, []int64{0, 0, 0, 0}, []int64{100, 900, 100, 900}, api.OK},
		{"too short", square(), [3]int64{1000, 99, 900}, []int64{0, 0, 0, 0}, nil, api.ErrLimit},
		{"too long", square(), [3]int64{1000, 100, 901}, []int64{0, 0, 0, 0}, nil, api.ErrLimit},
		{"the parts at their limit", far(3072), [3]int64{1500, 500, 500}, []int64{0, 0, 0, 0, 0}, []int64{500, 500, 500, 500, 500}, api.OK},
		{"the parts beyond their limit", far(3073), [3]int64{1500, 500, 500}, []int64{0, 0, 0, 0, 0}, nil, api.ErrOver},
		{"the first one too long, then the parts beyond", far(3073), [3]int64{15000, 500, 500}, []int64{0, 0, 0, 0, 0}, nil, api.ErrLimit},
		{"the parts beyond, then one too long", swapped(far(3073), 0, 3), [3]int64{15000, 500, 500}, []int64{0, 0, 0, 0, 0}, nil, api.ErrOver},
		{"other heights than supports", square(), [3]int64{-1, 0, 0}, []int64{0, 0, 0, 0, 0}, nil, api.ErrEqual},
		{"no heights", square(), [3]int64{1000, 500, 500}, nil, nil, api.ErrEqual},
		{"the ground beyond", square(), [3]int64{1000, 500, 500}, []int64{0, 0, 0, 16385}, nil, api.ErrRange},
		{"any ground", square(), [3]int64{1000, 500, 500}, []int64{math.MinInt64, 0, 0, 0}, nil, api.ErrRange},
		{"a filling beyond", square(), [3]int64{0, 0, 196609}, []int64{0, 0, 0, 0}, nil, api.ErrRange},
		{"a filling below 0", square(), [3]int64{-1, 0, 0}, []int64{0, 0, 0, 0}, nil, api.ErrRange},
		{"no platform", square()[1:3], [3]int64{-1, 0, 0}, nil, nil, api.ErrMany},
	} {
		got, e := statics.Strokes(x.p, x.filling, x.ground)
		checkList(t, x.what, got, e, x.want, x.e)
	}
}

// swapped returns a platform with two supports exchanged.
func swapped(p []api.Support, i, k int) []api.Support {
	p = slices.Clone(p)
	p[i], p[k] = p[k], p[i]
	return p
}

// P4.6: platforms of all sizes on ground of all heights, against numbers of any size.
func TestGroundAny(t *testing.T) {
	r := chance(7)
	heights1, strokes1 := map[api.Errno]int{}, map[api.Errno]int{}
	for range 3000 {
		p := anyPlatform(t, r, 48, from(r, 1, side))
		if r.IntN(2) == 0 {
			p = stroked(p)
		}
		filling, ground := fillings(r, 196608), heights(r, len(p), 1<<from(r, 0, 14))
		if r.IntN(2) == 0 { // so that some cylinders are neither too short nor too long
			for g, row := range sumsOf(p) {
				filling[g] = from(r, 1900, 2100) * row[0]
			}
		}
		at := pt(from(r, -2*side, 2*side), from(r, -2*side, 2*side))
		want, wantErr := heightOf(p, filling, ground, at)
		got, e := statics.Height(p, filling, ground, at)
		check(t, "any height", got, e, want, wantErr)
		heights1[e]++
		wants, wantErr := strokesOf(p, filling, ground)
		lengths, e := statics.Strokes(p, filling, ground)
		checkList(t, "any strokes", lengths, e, wants, wantErr)
		strokes1[e]++
	}
	if heights1[api.OK] < 500 || heights1[api.ErrOver] < 10 || strokes1[api.OK] < 100 || strokes1[api.ErrLimit] < 500 {
		t.Errorf("the errors are %v, and %v", heights1, strokes1)
	}
}

// P4.6: the greatest numbers that there are.
func TestGroundAtLimits(t *testing.T) {
	p := wide()
	for _, high := range []int64{-1 << 14, 1 << 14} {
		ground := slices.Repeat([]int64{high}, len(p))
		for _, at := range corners() {
			filling := [3]int64{196608, 0, 196608}
			want, wantErr := heightOf(p, filling, ground, at)
			got, e := statics.Height(p, filling, ground, at)
			check(t, "at the limits", got, e, want, wantErr)
		}
	}
	// Middles that are close together, far away from where all is: the greatest parts, and a whole of 1.
	tight := []api.Support{at(-side, side, 0), at(-side+1, side, 1), at(-side, side-1, 2)}
	got, e := statics.Height(tight, [3]int64{196608, 196608, 0}, []int64{1 << 14, -1 << 14, 1 << 14}, pt(-side+1024, side-1))
	check(t, "close together", got, e, -1024*(196608+1<<14)+1024*(196608-1<<14)+1<<14, api.OK)
}

// P4.14
func TestLevelGround(t *testing.T) {
	r := chance(8)
	fine := 0
	for range 2000 {
		p := stroked(anyPlatform(t, r, 48, from(r, 1, side)))
		c, high := from(r, 3, 4090), from(r, -1<<14, 1<<14)
		var filling [3]int64
		for g, row := range sumsOf(p) {
			filling[g] = c * row[0]
		}
		lengths, e := statics.Strokes(p, filling, slices.Repeat([]int64{high}, len(p)))
		if e == api.ErrOver {
			continue
		}
		checkErr(t, "level", e, api.OK)
		fine++
		for _, l := range lengths {
			if l < c-3 || l > c+3 {
				t.Fatalf("a length of %d for fillings of %d", l, c)
			}
		}
	}
	if fine < 1000 {
		t.Errorf("only %d stand", fine)
	}
}

// P4.14: with raised ground, too, all lengths are the same, but for 3.
func TestRaisedGround(t *testing.T) {
	r := chance(9)
	fine := 0
	for range 2000 {
		p := stroked(anyPlatform(t, r, 12, from(r, 1, side)))
		var filling [3]int64
		for g, row := range sumsOf(p) {
			filling[g] = 2000 * row[0]
		}
		ground, by := heights(r, len(p), from(r, 0, 500)), from(r, -9999, 9999)
		before, e := statics.Strokes(p, filling, ground)
		if e != api.OK {
			continue
		}
		for i := range ground {
			ground[i] += by
		}
		after, e := statics.Strokes(p, filling, ground)
		if e != api.OK { // a length that was at its limit may be 3 beyond it
			continue
		}
		fine++
		for i := range after {
			if after[i] < before[i]-3 || after[i] > before[i]+3 {
				t.Fatalf("the lengths are %v, and raised by %d %v", before, by, after)
			}
		}
	}
	if fine < 500 {
		t.Errorf("only %d stand", fine)
	}
}
