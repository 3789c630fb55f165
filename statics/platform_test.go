package statics_test

import (
	"math"
	"slices"
	"testing"

	"gooseneck/api"
	"gooseneck/statics"
)

// P4.1: how many supports there are comes ahead of what they are, and this ahead of whether they can stand.
func TestCheckOrder(t *testing.T) {
	bad := at(side+1, 0, 0)
	fill := func(n int, s api.Support) []api.Support {
		return append(slices.Repeat([]api.Support{s}, n-3), corner()...)
	}
	for _, x := range []struct {
		what string
		p    []api.Support
		want api.Errno
	}{
		{"none", nil, api.ErrMany},
		{"an empty list", []api.Support{}, api.ErrMany},
		{"two", corner()[:2], api.ErrMany},
		{"two, one of them not valid", []api.Support{bad, at(0, 0, 1)}, api.ErrMany},
		{"three", corner(), api.OK},
		{"as many as there may be", fill(48, at(1, 1, 1)), api.OK},
		{"one too many", fill(49, at(1, 1, 1)), api.ErrMany},
		{"one too many, not valid", fill(49, bad), api.ErrMany},
		{"the last one not valid", append(example(), bad), api.ErrArg},
		{"one not valid, that cannot stand", []api.Support{at(0, 0, 0), at(0, 0, 0), bad}, api.ErrArg},
		{"a group is missing", []api.Support{at(0, 0, 0), at(1, 0, 1), at(0, 1, 1)}, api.ErrZero},
		{"the group 0 is missing", []api.Support{at(0, 0, 2), at(1, 0, 1), at(0, 1, 1)}, api.ErrZero},
		{"one group alone", []api.Support{at(0, 0, 1), at(1, 0, 1), at(0, 1, 1)}, api.ErrZero},
		{"on a line", []api.Support{at(0, 0, 0), at(1, 1, 1), at(2, 2, 2)}, api.ErrZero},
		{"at one place", []api.Support{at(5, 5, 0), at(5, 5, 1), at(5, 5, 2)}, api.ErrZero},
		{"the middles on a line", []api.Support{at(0, 9, 0), at(0, -9, 0), at(1, 0, 1), at(2, 0, 2)}, api.ErrZero},
		{"the middles on a line, not at whole coordinates", []api.Support{at(0, 0, 0), at(0, 1, 0), at(1, 1, 1), at(-1, 0, 2)}, api.ErrZero},
		{"nearly on a line", []api.Support{at(-side, -side, 0), at(0, 1, 1), at(side, side, 2)}, api.OK},
		{"a group is spread over the others", []api.Support{at(-9, 0, 0), at(9, 0, 0), at(0, 0, 1), at(0, 1, 2), at(3, 0, 1)}, api.OK},
	} {
		checkErr(t, x.what, statics.Check(x.p), x.want)
	}
}

// P4.1: each number of a support at its limits, and beyond them.
func TestCheckSupports(t *testing.T) {
	for _, x := range []struct {
		what   string
		change func(s *api.Support, n int64)
		ok     []int64
		bad    []int64
	}{
		{"X", func(s *api.Support, n int64) { s.X = n }, []int64{-side, 0, side}, []int64{-side - 1, side + 1, math.MinInt64, math.MaxInt64}},
		{"Y", func(s *api.Support, n int64) { s.Y = n }, []int64{-side, 1, side}, []int64{-side - 1, side + 1, math.MinInt64, math.MaxInt64}},
		{"Group", func(s *api.Support, n int64) { s.Group = int(n) }, []int64{0, 1, 2}, []int64{-1, 3, math.MinInt64, math.MaxInt64, 1 << 32}},
		{"Limit", func(s *api.Support, n int64) { s.Limit = n }, []int64{1, 1 << 20}, []int64{0, -1, 1<<20 + 1, math.MinInt64, math.MaxInt64}},
		{"Least", func(s *api.Support, n int64) { s.Least = n }, []int64{0, 900}, []int64{-1, 901, math.MinInt64, math.MaxInt64}},
		{"Most", func(s *api.Support, n int64) { s.Most = n }, []int64{100, 4096}, []int64{99, 0, -1, 4097, math.MinInt64, math.MaxInt64}},
		{"both strokes", func(s *api.Support, n int64) { s.Least, s.Most = n, n }, []int64{0, 4096}, []int64{-1, 4097}},
	} {
		for _, n := range slices.Concat(x.ok, x.bad) {
			p := append(corner(), at(1, 2, 0))
			x.change(&p[3], n)
			want := api.ErrArg
			if slices.Contains(x.ok, n) {
				want = api.OK
			}
			if e := statics.Check(p); e != want {
				t.Errorf("%s = %d: error %d, want %d", x.what, n, e, want)
			}
		}
	}
}

// P4.1: the examples, and others.
func TestSums(t *testing.T) {
	got, e := statics.Sums(example())
	check(t, "the example", got, e, [3][3]int64{{2, 0, 1000}, {1, 4000, 2000}, {1, 4000, -2000}}, api.OK)
	got, e = statics.Sums(wide())
	check(t, "the greatest", got, e, [3][3]int64{{16, -16 * side, -16 * side}, {16, 16 * side, -16 * side}, {16, -16 * side, 16 * side}}, api.OK)
	got, e = statics.Sums(corner()[:2])
	check(t, "too few", got, e, [3][3]int64{}, api.ErrMany)
	got, e = statics.Sums([]api.Support{at(0, 0, 0), at(1, 1, 1), at(2, 2, 2)})
	check(t, "on a line", got, e, [3][3]int64{}, api.ErrZero)
	r := chance(1)
	for range 300 {
		p := anyPlatform(t, r, 48, from(r, 1, side))
		got, e := statics.Sums(p)
		check(t, "any", got, e, sumsOf(p), api.OK)
	}
}

// told is what Parts returns, but the error.
type told struct {
	parts [3]int64
	whole int64
}

func partsAt(p []api.Support, at api.Point) (told, api.Errno) {
	l, d, e := statics.Parts(p, at)
	return told{l, d}, e
}

// P4.1: the parts add up to a whole that is above 0, whichever way the groups go around.
func TestParts(t *testing.T) {
	got, e := partsAt(example(), pt(2000, 0))
	check(t, "the example", got, e, told{[3]int64{8000000, 6000000, 10000000}, 32000000}, api.OK)
	got, e = partsAt(corner(), pt(300, -200))
	check(t, "to the left", got, e, told{[3]int64{900000, 300000, -200000}, 1000000}, api.OK)
	got, e = partsAt(regrouped(corner(), []int{0, 2, 1}), pt(300, -200))
	check(t, "to the right", got, e, told{[3]int64{900000, -200000, 300000}, 1000000}, api.OK)
	got, e = partsAt(regrouped(corner(), []int{2, 0, 1}), pt(300, -200))
	check(t, "to the left, from another one on", got, e, told{[3]int64{300000, -200000, 900000}, 1000000}, api.OK)
	r := chance(2)
	for range 1000 {
		p := anyPlatform(t, r, from(r, 3, 48), from(r, 1, side))
		at := pt(from(r, -2*side, 2*side), from(r, -2*side, 2*side))
		l, all := partsOf(p, at)
		want := told{whole: downOf(all)}
		for g := range l {
			want.parts[g] = downOf(l[g])
		}
		got, e := partsAt(p, at)
		check(t, "any", got, e, want, api.OK)
	}
}

// corners are the points at the limits.
func corners() []api.Point {
	return []api.Point{pt(2*side, 2*side), pt(-2*side, 2*side), pt(2*side, -2*side), pt(-2*side, -2*side)}
}

// beyond are points of which a coordinate is beyond the limits.
func beyond() []api.Point {
	return []api.Point{
		pt(2*side+1, 0), pt(-2*side-1, 0), pt(0, 2*side+1), pt(0, -2*side-1),
		pt(math.MinInt64, 0), pt(0, math.MinInt64), pt(math.MaxInt64, 0), pt(0, math.MaxInt64),
	}
}

// P4.1: points at the limits, where the numbers are the greatest, and beyond them.
func TestPartsAtLimits(t *testing.T) {
	for _, p := range [][]api.Support{wide(), regrouped(wide(), slices.Repeat([]int{1, 0, 2}, 16)), example()} {
		for _, at := range corners() {
			l, all := partsOf(p, at)
			got, e := partsAt(p, at)
			check(t, "at the limit", got, e, told{[3]int64{downOf(l[0]), downOf(l[1]), downOf(l[2])}, downOf(all)}, api.OK)
		}
		for _, at := range beyond() {
			got, e := partsAt(p, at)
			check(t, "beyond", got, e, told{}, api.ErrRange)
		}
	}
	got, e := partsAt(corner()[:2], pt(2*side+1, 0))
	check(t, "too few, beyond", got, e, told{}, api.ErrMany)
}
