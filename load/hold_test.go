package load_test

import (
	"math"
	"slices"
	"testing"

	"gooseneck/api"
	"gooseneck/load"
)

// P2.10
func TestHold(t *testing.T) {
	l := with(of(block(0, 0, 0, 10, 10, 10, 1000)), eye(0, 0, 0, 1<<22))
	ahead, behind, left, right := api.Lash{X: 9, Strength: 30}, api.Lash{X: -9, Strength: 20}, api.Lash{Y: 9, Strength: 7}, api.Lash{Y: -9, Strength: 8}
	both := []api.Lash{ahead, behind}
	far := []api.Lash{{Eye: 1, X: 4000, Y: 1000, Z: -1000, Strength: 5000}}
	for _, x := range []struct {
		what string
		l    api.Load
		lash []api.Lash
		s    api.Shake
		n    api.Point
	}{
		{"the example, on the edge", example(), nil, api.Shake{X: 300, Z: 1000}, pt(0, 0)},
		{"the example", example(), nil, api.Shake{X: 301, Z: 1000}, pt(1060, -440)},
		{"the example with a lashing", example(), far, api.Shake{X: 800, Z: 1000}, pt(0, 0)},
		{"the example with a lashing, on the edge", example(), far, api.Shake{X: 1280, Z: 1000}, pt(0, 0)},
		{"a point, ahead", rubbing(l, 0), nil, api.Shake{X: 1, Y: 1}, pt(1, 0)},
		{"a point, to the left", rubbing(l, 0), nil, api.Shake{Y: 1}, pt(0, 1)},
		{"a point, to the left before back", rubbing(l, 0), nil, api.Shake{X: -1, Y: 1}, pt(0, 1)},
		{"a point, back", rubbing(l, 0), nil, api.Shake{X: -1, Y: -1}, pt(-1, 0)},
		{"a point, to the right", rubbing(l, 0), nil, api.Shake{Y: -1}, pt(0, -1)},
		{"a point, held", rubbing(l, 0), nil, api.Shake{Z: 2000}, pt(0, 0)},
		{"a line, on its end", rubbing(l, 0), both, api.Shake{X: 30}, pt(0, 0)},
		{"a line, on its other end", rubbing(l, 0), both, api.Shake{X: -20}, pt(0, 0)},
		{"a line, ahead of it", rubbing(l, 0), both, api.Shake{X: 31}, pt(50, 0)},
		{"a line, behind it", rubbing(l, 0), both, api.Shake{X: -21}, pt(-50, 0)},
		{"a line, to the right", rubbing(l, 0), both, api.Shake{X: 99, Y: -1}, pt(0, -50)},
		{"a line, to the left", rubbing(l, 0), both, api.Shake{X: -99, Y: 1}, pt(0, 50)},
		{"a line along Y, beyond its end", rubbing(l, 0), []api.Lash{right, left}, api.Shake{Y: 8}, pt(0, 15)},
		{"a line along Y, behind its other end", rubbing(l, 0), []api.Lash{right, left}, api.Shake{Y: -9}, pt(0, -15)},
		{"a line along Y, ahead", rubbing(l, 0), []api.Lash{right, left}, api.Shake{X: 1, Y: 99}, pt(15, 0)},
		{"a line along Y, back", rubbing(l, 0), []api.Lash{right, left}, api.Shake{X: -1, Y: -99}, pt(-15, 0)},
		{"a square, on its corner", rubbing(l, 0), []api.Lash{left, right, ahead, behind}, api.Shake{X: -20, Y: 7}, pt(0, 0)},
		{"a square, beyond two sides: the first one", rubbing(l, 0), []api.Lash{left, right, ahead, behind}, api.Shake{X: -21, Y: -9}, pt(0, -50)},
		{"a square, beyond the last side", rubbing(l, 0), []api.Lash{left, right, ahead, behind}, api.Shake{X: -21, Y: 7}, pt(-15, 0)},
	} {
		want := api.OK
		if x.n != pt(0, 0) {
			want = api.ErrSlip
		}
		n, e := load.Hold(x.l, x.lash, x.s)
		check(t, x.what, n, e, x.n, want)
		if e == api.ErrSlip {
			checkErr(t, x.what+": Slips", load.Slips(x.l, x.lash, x.s, n), api.OK)
		}
	}
}

// P2.10
func TestSlips(t *testing.T) {
	l := rubbing(of(block(0, 0, 0, 10, 10, 10, 1000)), 100)
	s := api.Shake{X: 101, Z: 1000} // the reach has a corner at (100, 0), and the one next to it at (70, 70)
	for _, x := range []struct {
		what string
		n    api.Point
		want api.Errno
	}{
		{"ahead", pt(1, 0), api.OK},
		{"ahead, by the greatest number", pt(1<<30, 0), api.OK},
		{"ahead, by more", pt(1<<30+1, 0), api.ErrRange},
		{"back", pt(-1, 0), api.ErrSum},
		{"back, by the greatest number", pt(-1<<30, 1<<30), api.ErrSum},
		{"back, by more", pt(-1<<30-1, 0), api.ErrRange},
		{"to the left, by more", pt(5, 1<<30+1), api.ErrRange},
		{"to the right, by more", pt(5, -1<<30-1), api.ErrRange},
		{"nowhere", pt(0, 0), api.ErrRange},
		{"the least numbers", pt(math.MinInt64, math.MinInt64), api.ErrRange},
		{"the greatest numbers", pt(math.MaxInt64, math.MaxInt64), api.ErrRange},
		{"just as far as a corner: 101 70 and 70 70 + 31 70", pt(70, 31), api.ErrSum},
		{"a little farther than a corner", pt(71, 31), api.OK},
		{"a little less", pt(70, 32), api.ErrSum},
		{"just as far as a corner on the other side", pt(70, -31), api.ErrSum},
		{"a little farther on the other side", pt(71, -31), api.OK},
	} {
		checkErr(t, x.what, load.Slips(l, nil, s, x.n), x.want)
	}
	checkErr(t, "on the edge", load.Slips(l, nil, api.Shake{X: 100, Z: 1000}, pt(1, 0)), api.ErrSum)
}

// P2.10: at the greatest numbers of all.
func TestSlipsAtLimits(t *testing.T) {
	const most = 1 << 30
	l := with(rubbing(of(block(0, 0, 0, 1, 1, 1, 1<<24)), 1000), eye(0, 0, side, 1<<22))
	for _, to := range []int64{side, -side} {
		x := slices.Repeat([]api.Lash{{X: to, Y: to, Z: side / 2, Strength: 1 << 22}}, 24)
		for _, s := range []api.Shake{{X: 2000, Y: 2000, Z: 2000}, {X: -2000, Y: -2000, Z: 2000}, {X: 2000, Y: -2000}} {
			reach, need := reachBySums(l, x, s), needOf(l, s)
			for _, n := range pts(most, most, -most, -most, most, -most, -most, most, most, 1, -1, most) {
				want := api.ErrSum
				if provesOf(reach, need, n) {
					want = api.OK
				}
				checkErr(t, "Slips", load.Slips(l, x, s, n), want)
			}
		}
	}
}

// P2.10, P2.15: the first of the directions, if there is one; what Hold returns is accepted by Slips.
func TestHoldByChance(t *testing.T) {
	r := chance(12)
	held := 0
	for range 1500 {
		l := anyLoad(r, 5, side)
		x, s := anyLashes(r, l, from(r, 0, 8), side), anyShake(r)
		if r.IntN(2) == 0 {
			l, x = light(r, from(r, 0, 4))
		}
		s.Z = max(s.Z, 1000) // more of them are held
		reach, need := reachBySums(l, x, s), needOf(l, s)
		want, wantErr := pt(0, 0), api.ErrSlip
		if insideOf(reach, need, 1) {
			wantErr = api.OK
			held++
		} else {
			i := slices.IndexFunc(directionsOf(reach), func(n api.Point) bool { return provesOf(reach, need, n) })
			want = directionsOf(reach)[i]
			checkErr(t, "Slips", load.Slips(l, x, s, want), api.OK)
		}
		n, e := load.Hold(l, x, s)
		check(t, "Hold", n, e, want, wantErr)
	}
	if held < 200 || held > 1300 {
		t.Errorf("%d loads are held", held)
	}
}

// P2.15: a load is held just if no direction proves that it slips. The reach is so small that its sides, and so the
// directions that count, are among those that are tried.
func TestHeldOrProved(t *testing.T) {
	r := chance(13)
	for range 150 {
		l, x := light(r, from(r, 0, 3))
		s := api.Shake{X: from(r, -20, 20) * 100, Y: from(r, -20, 20) * 100, Z: from(r, 0, 20) * 100}
		_, e := load.Hold(l, x, s)
		proved := false
		for i := range int64(121 * 121) {
			if n := pt(i%121-60, i/121-60); n != pt(0, 0) && load.Slips(l, x, s, n) == api.OK {
				proved = true
				break
			}
		}
		if proved != (e == api.ErrSlip) {
			t.Errorf("Hold of %v with %v in %v: %d, but proved: %v", l, x, s, e, proved)
		}
	}
}

// P2.16: with more lashings, more friction, or a shake with a greater Z, the reach contains that of before, and what is
// held stays held.
func TestMoreHoldsMore(t *testing.T) {
	r := chance(14)
	for range 300 {
		l := anyLoad(r, 4, side)
		x := anyLashes(r, l, 4, side)
		if r.IntN(2) == 0 {
			l, x = light(r, 4)
		}
		s := anyShake(r)
		before := reachOf(t, l, x[:3], s)
		_, held := load.Hold(l, x[:3], s)
		higher := s
		higher.Z = from(r, s.Z, api.MaxShake)
		rough := rubbing(l, from(r, l.Friction, api.MaxFriction))
		for _, more := range []struct {
			what string
			l    api.Load
			x    []api.Lash
			s    api.Shake
		}{
			{"a lashing more", l, x, s},
			{"a lashing more, in front", l, []api.Lash{x[3], x[0], x[1], x[2]}, s},
			{"more friction", rough, x[:3], s},
			{"a greater Z", l, x[:3], higher},
		} {
			after := reachOf(t, more.l, more.x, more.s)
			for _, p := range before {
				if !insideOf(after, p, 1) {
					t.Errorf("%s: %v is not in %v", more.what, p, after)
				}
			}
			if _, e := load.Hold(more.l, more.x, more.s); held == api.OK && e != api.OK {
				t.Errorf("%s: it is held no more", more.what)
			}
		}
	}
}

// P2.11
func TestLeast(t *testing.T) {
	l := with(rubbing(of(block(0, 0, 0, 10, 10, 10, 1000)), 0), eye(0, 0, 0, 1<<22))
	ahead := func(strength int64) api.Lash { return api.Lash{X: 9, Strength: strength} }
	behind := func(strength int64) api.Lash { return api.Lash{X: -9, Strength: strength} }
	for _, x := range []struct {
		what string
		lash []api.Lash
		s    []api.Shake
		left []int
		e    api.Errno
	}{
		{"no lashings, no shakes", nil, nil, nil, api.OK},
		{"no shakes: all can be left out", []api.Lash{ahead(1), behind(1)}, nil, nil, api.OK},
		{"no lashings, nothing to hold", nil, []api.Shake{{Z: 1000}}, nil, api.OK},
		{"no lashings", nil, []api.Shake{{X: 1}}, nil, api.ErrSlip},
		{"nothing to hold", []api.Lash{ahead(1), behind(1)}, []api.Shake{{}}, nil, api.OK},
		{"one that is needed", []api.Lash{ahead(30)}, []api.Shake{{X: 30}}, []int{0}, api.OK},
		{"one that is too weak", []api.Lash{ahead(29)}, []api.Shake{{X: 30}}, nil, api.ErrSlip},
		{"the last one is left out first", []api.Lash{ahead(30), ahead(30)}, []api.Shake{{X: 30}}, []int{0}, api.OK},
		{"the last one is needed", []api.Lash{ahead(29), ahead(30)}, []api.Shake{{X: 30}}, []int{1}, api.OK},
		{"two of three", []api.Lash{ahead(10), ahead(20), ahead(30)}, []api.Shake{{X: 30}}, []int{0, 1}, api.OK},
		{"the first one and the last one", []api.Lash{ahead(10), behind(9), ahead(20)}, []api.Shake{{X: 30}}, []int{0, 2}, api.OK},
		{"for all shakes", []api.Lash{behind(7), ahead(10), behind(9), ahead(20), behind(7)}, []api.Shake{{X: 20}, {}, {X: -9}}, []int{2, 3}, api.OK},
		{"held in some of the shakes", []api.Lash{ahead(10)}, []api.Shake{{X: 10}, {X: -1}, {X: 5}}, nil, api.ErrSlip},
		{"as many shakes as there may be", []api.Lash{ahead(1)}, make([]api.Shake, 8), nil, api.OK},
		{"a shake too many", []api.Lash{ahead(1)}, make([]api.Shake, 9), nil, api.ErrMany},
		{"a shake too many, none valid", nil, slices.Repeat([]api.Shake{{Z: -1}}, 9), nil, api.ErrMany},
		{"a shake that is not valid, and one in which it slips", nil, []api.Shake{{X: 1}, {Z: -1}}, nil, api.ErrRange},
		{"a lashing that is not valid, and shakes too many", []api.Lash{{}}, make([]api.Shake, 9), nil, api.ErrArg},
	} {
		got, e := load.Least(l, x.lash, x.s)
		checkList(t, x.what, got, e, x.left, x.e)
	}
}

// P2.11, P2.17: those that are left hold the load, and none of them can be left out; of several such sets it is the one
// in which the last lashings are left out first.
func TestLeastByChance(t *testing.T) {
	r := chance(15)
	found := 0
	for range 400 {
		l, x := light(r, from(r, 3, 9))
		var s []api.Shake
		for range from(r, 0, 3) {
			s = append(s, api.Shake{X: from(r, -12, 6) * 100, Y: from(r, -12, 6) * 100, Z: 1000})
		}
		holds := func(some []int) bool {
			var y []api.Lash
			for _, i := range some {
				y = append(y, x[i])
			}
			return !slices.ContainsFunc(s, func(s api.Shake) bool {
				return !insideOf(reachBySums(l, y, s), needOf(l, s), 1)
			})
		}
		var all []int
		for i := range x {
			all = append(all, i)
		}
		got, e := load.Least(l, x, s)
		if !holds(all) {
			checkList(t, "Least", got, e, nil, api.ErrSlip)
			continue
		}
		want := slices.Clone(all)
		for i := len(x) - 1; i >= 0; i-- {
			if without := slices.DeleteFunc(slices.Clone(want), func(k int) bool { return k == i }); holds(without) {
				want = without
			}
		}
		checkList(t, "Least", got, e, want, api.OK)
		for _, i := range got {
			if holds(slices.DeleteFunc(slices.Clone(got), func(k int) bool { return k == i })) {
				t.Errorf("%d can be left out of %v", i, got)
			}
		}
		if !holds(got) {
			t.Errorf("%v do not hold", got)
		}
		if len(got) > 1 && len(got) < len(x) {
			found++
		}
	}
	if found < 20 {
		t.Errorf("only %d times some are left out, and some are left", found)
	}
}
