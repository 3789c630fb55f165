package statics_test

import (
	"math"
	"slices"
	"testing"

	"gooseneck/api"
	"gooseneck/statics"
)

// two is a platform of n supports on each side, 400 apart.
func two(n int) []api.Support {
	var p []api.Support
	for i := range int64(n) {
		p = append(p, at(400*i, 100, 0), at(400*i, -100, 0))
	}
	p[0].Group, p[1].Group = 1, 2
	return p
}

// P4.7
func TestDivide(t *testing.T) {
	groups := func(l ...int) []int { return l }
	three := []api.Support{at(0, 0, 0), at(1000, 0, 1), at(1000, 600, 2)}
	for _, x := range []struct {
		what string
		p    []api.Support
		mass int64
		at   api.Point
		want api.Regroup
		e    api.Errno
	}{
		{"three, the front alone", three, 300, pt(600, 200), api.Regroup{Groups: groups(0, 2, 1), Load: 120}, api.OK},
		{"at the place of one", three, 300, pt(1000, 600), api.Regroup{Groups: groups(0, 2, 1), Load: 300}, api.OK},
		{"in the middle", two(3), 1200, pt(400, 0), api.Regroup{Groups: groups(1, 0, 1, 2, 1, 2), Load: 200}, api.OK},
		{"between the first ones", two(3), 1200, pt(0, 0), api.Regroup{Groups: groups(0, 0, 1, 2, 1, 2), Load: 600}, api.OK},
		{"between the last ones", two(3), 1200, pt(800, 0), api.Regroup{Groups: groups(1, 2, 1, 2, 0, 0), Load: 600}, api.OK},
		{"rounded up", two(3), 1201, pt(400, 0), api.Regroup{Groups: groups(1, 0, 1, 2, 1, 2), Load: 201}, api.OK},
		{"beyond the front", two(3), 1200, pt(-1, 0), api.Regroup{}, api.ErrPlan},
		{"beyond the rear", two(3), 1200, pt(801, 0), api.Regroup{}, api.ErrPlan},
		{"beyond a side", two(3), 1200, pt(400, 101), api.Regroup{}, api.ErrPlan},
		{"at the limit", limited(two(3), 200), 1200, pt(400, 0), api.Regroup{Groups: groups(1, 0, 1, 2, 1, 2), Load: 200}, api.OK},
		{"above the limit", limited(two(3), 200), 1201, pt(400, 0), api.Regroup{}, api.ErrPlan},
		{"the front division cannot stand", []api.Support{at(0, 0, 0), at(400, 5, 1), at(800, 5, 2)}, 9, pt(400, 4), api.Regroup{Groups: groups(2, 1, 0), Load: 6}, api.OK},
	} {
		got, e := statics.Divide(x.p, x.mass, x.at)
		want, wantErr := divideOf(x.p, x.mass, x.at)
		checkDivision(t, x.what+", the oracle", want, wantErr, x.want, x.e)
		checkDivision(t, x.what, got, e, x.want, x.e)
	}
}

// P4.7: the supports are put in order by X, of several by Y, of several by their index, wherever they stand in the list;
// their own groups do not matter.
func TestDivideOrder(t *testing.T) {
	r := chance(10)
	for range 500 {
		p := anyPlatform(t, r, 9, from(r, 1, 5)) // many of them have equal coordinates
		p = limited(p, api.MaxLoad)
		mass, where := from(r, 1, 999), amid(r, p)
		want, wantErr := divideOf(p, mass, where)
		got, e := statics.Divide(p, mass, where)
		checkDivision(t, "close together", got, e, want, wantErr)
		for range 3 {
			other := slices.Clone(p)
			r.Shuffle(len(p), func(i, k int) { other[i].Group, other[k].Group = other[k].Group, other[i].Group })
			if statics.Check(other) != api.OK {
				continue
			}
			got, e := statics.Divide(other, mass, where)
			checkDivision(t, "with other groups", got, e, want, wantErr)
		}
	}
}

// P4.7: a Y at the mean of the others is not greater, and the mean is not rounded.
func TestDivideMean(t *testing.T) {
	level := []api.Support{at(0, 0, 0), at(100, -1, 1), at(100, 0, 2), at(100, 1, 0)}
	got, e := statics.Divide(level, 100, pt(0, 0))
	checkDivision(t, "at the mean", got, e, api.Regroup{Groups: []int{0, 2, 2, 1}, Load: 100}, api.OK)
	for _, x := range []struct {
		y    [3]int64
		want []int
	}{
		{[3]int64{0, 0, 1}, []int{0, 2, 2, 1}},
		{[3]int64{0, 1, 1}, []int{0, 2, 1, 1}},
		{[3]int64{-1, 0, 0}, []int{0, 2, 1, 1}},
		{[3]int64{-1, -1, 0}, []int{0, 2, 2, 1}},
		{[3]int64{1, 0, -1}, []int{0, 1, 2, 2}},
	} {
		p := []api.Support{at(0, 0, 0), at(100, x.y[0], 1), at(100, x.y[1], 1), at(100, x.y[2], 1)}
		p[1].Group = 2
		if statics.Check(p) != api.OK {
			p[1].Group, p[3].Group = 1, 2
		}
		got, e := statics.Divide(p, 100, pt(0, 0))
		checkDivision(t, "the mean is not whole", got, e, api.Regroup{Groups: x.want, Load: 100}, api.OK)
	}
}

// P4.7: the errors come in the order of the chapter.
func TestDivideErrors(t *testing.T) {
	none := api.Regroup{}
	for _, mass := range []int64{0, -1, 1<<24 + 1, math.MinInt64, math.MaxInt64} {
		got, e := statics.Divide(two(3), mass, pt(-1, 0))
		checkDivision(t, "no mass that may be", got, e, none, api.ErrRange)
	}
	for _, at := range beyond() {
		got, e := statics.Divide(two(3), 1, at)
		checkDivision(t, "beyond", got, e, none, api.ErrRange)
	}
	for _, at := range corners() {
		got, e := statics.Divide(two(3), 1, at)
		checkDivision(t, "at the limit", got, e, none, api.ErrPlan)
	}
	got, e := statics.Divide(two(3)[:2], 0, pt(400, 0))
	checkDivision(t, "too few", got, e, none, api.ErrMany)
	one := two(3)
	one[0].Group, one[1].Group = 0, 0
	got, e = statics.Divide(one, 1200, pt(400, 0))
	checkDivision(t, "one that cannot stand as it is", got, e, none, api.ErrZero)
	got, e = statics.Divide(wide(), 1<<24, pt(0, 0))
	want, wantErr := divideOf(wide(), 1<<24, pt(0, 0))
	checkDivision(t, "the greatest", got, e, want, wantErr)
}

// P4.7, P4.15: what is returned is possible, with its load, and no other division that is possible has a lesser one, nor
// one ahead of it the same.
func TestDivideAny(t *testing.T) {
	r := chance(11)
	seen := map[api.Errno]int{}
	for range 400 {
		p := anyPlatform(t, r, 12, from(r, 2, side))
		if r.IntN(2) == 0 {
			p = limited(p, api.MaxLoad)
		}
		mass, at := from(r, 1, 1<<from(r, 0, 24)), amid(r, p)
		got, e := statics.Divide(p, mass, at)
		seen[e]++
		found := e != api.OK
		for _, groups := range divisionsOf(p) {
			load, isPossible := loadOf(p, groups, mass, at)
			switch {
			case e == api.ErrPlan && isPossible:
				t.Fatalf("%v is possible", groups)
			case e == api.OK && isPossible && (load < got.Load || load == got.Load && !found && !slices.Equal(groups, got.Groups)):
				t.Fatalf("%v has the load %d, and not %v", groups, load, got)
			case slices.Equal(groups, got.Groups):
				found = true
				if !isPossible || load != got.Load {
					t.Fatalf("%v has the load %d", got, load)
				}
			}
		}
		if !found {
			t.Fatalf("%v is no division", got)
		}
	}
	if seen[api.OK] < 100 || seen[api.ErrPlan] < 20 {
		t.Errorf("the errors are %v", seen)
	}
}
