package load_test

import (
	"math/rand/v2"
	"slices"
	"testing"

	"gooseneck/api"
	"gooseneck/load"
)

// P2.4
func TestOverlap(t *testing.T) {
	unit := block(0, 0, 0, 10, 10, 10, 1)
	for _, x := range []struct {
		what string
		l    api.Load
		i, k int
		e    api.Errno
	}{
		{"one piece", of(unit), 0, 0, api.ErrNone},
		{"the example", example(), 0, 0, api.ErrNone},
		{"side by side in X", of(unit, block(10, 0, 0, 10, 10, 10, 1)), 0, 0, api.ErrNone},
		{"side by side in Y", of(unit, block(0, 10, 0, 10, 10, 10, 1)), 0, 0, api.ErrNone},
		{"on each other", of(unit, block(0, 0, 10, 10, 10, 10, 1)), 0, 0, api.ErrNone},
		{"below each other", of(block(0, 0, 10, 10, 10, 10, 1), unit), 0, 0, api.ErrNone},
		{"in X by 1", of(unit, block(9, 0, 0, 10, 10, 10, 1)), 0, 1, api.OK},
		{"in Y by 1", of(unit, block(0, -9, 0, 10, 10, 10, 1)), 0, 1, api.OK},
		{"in Z by 1", of(unit, block(0, 0, 9, 10, 10, 10, 1)), 0, 1, api.OK},
		{"one in the other", of(unit, block(4, 4, 4, 1, 1, 1, 1)), 0, 1, api.OK},
		{"the same twice", of(unit, unit), 0, 1, api.OK},
		{"a cross through", of(unit, block(-5, 4, 4, 20, 1, 1, 1)), 0, 1, api.OK},
		{"the first one first", of(unit, block(50, 0, 0, 1, 1, 1, 1), block(50, 0, 0, 1, 1, 1, 1), block(5, 5, 5, 1, 1, 1, 1)), 0, 3, api.OK},
		{"then the second one", of(unit, unit, unit), 0, 1, api.OK},
		{"the last two", of(unit, block(20, 0, 0, 5, 5, 5, 1), block(24, 4, 4, 5, 5, 5, 1)), 1, 2, api.OK},
	} {
		i, k, e := load.Overlap(x.l)
		check(t, x.what, [2]int{i, k}, e, [2]int{x.i, x.k}, x.e)
	}
}

// P2.5
func TestRestsAndCarries(t *testing.T) {
	// Two posts, a beam on both, a box on the beam, and one beside all of them.
	l := of(
		block(0, 0, 20, 5, 10, 5, 1), block(0, 0, 10, 100, 10, 10, 1), block(0, 0, 0, 10, 10, 10, 1), block(90, 0, 0, 10, 10, 10, 1),
		block(100, 0, 10, 10, 10, 10, 1), block(50, 0, 0, 10, 10, 9, 1), block(20, 10, 0, 10, 10, 10, 1),
	)
	for i, x := range []struct{ rests, carries []int }{
		{[]int{1}, []int{0}},
		{[]int{2, 3}, []int{0, 1}},
		{nil, []int{0, 1, 2}},
		{nil, []int{0, 1, 3}}, // the fifth one touches it with an edge only
		{nil, []int{4}},
		{nil, []int{5}}, // the beam is 1 above it
		{nil, []int{6}}, // the beam touches it with an edge only
	} {
		got, e := load.Rests(l, i)
		checkList(t, "Rests", got, e, x.rests, api.OK)
		got, e = load.Carries(l, i)
		checkList(t, "Carries", got, e, x.carries, api.OK)
	}
	for _, i := range []int{-1 << 63, -1, 7, 1<<63 - 1} {
		got, e := load.Rests(l, i)
		checkList(t, "Rests", got, e, nil, api.ErrRange)
		got, e = load.Carries(l, i)
		checkList(t, "Carries", got, e, nil, api.ErrRange)
	}
	got, e := load.Rests(example(), 1)
	checkList(t, "Rests of the example", got, e, []int{0}, api.OK)
	got, e = load.Carries(example(), 0)
	checkList(t, "Carries of the example", got, e, []int{0, 1}, api.OK)
}

// P2.5
func TestFalls(t *testing.T) {
	post := block(0, 0, 0, 10, 10, 10, 1)
	for _, x := range []struct {
		what string
		l    api.Load
		i    int
		e    api.Errno
	}{
		{"the example", example(), 0, api.ErrNone},
		{"on the deck", of(post), 0, api.ErrNone},
		{"on nothing", of(block(0, 0, 1, 1, 1, 1, 1)), 0, api.OK},
		{"beside a post", of(post, block(10, 0, 10, 1, 1, 1, 1)), 1, api.OK},
		{"the centre on the edge", of(post, block(0, 0, 10, 20, 10, 1, 1)), 0, api.ErrNone},
		{"the centre half a millimetre beyond", of(post, block(0, 0, 10, 21, 10, 1, 1)), 1, api.OK},
		{"the centre on the edge at the back", of(post, block(-10, 0, 10, 20, 10, 1, 1)), 0, api.ErrNone},
		{"the centre beyond the edge at the back", of(post, block(-11, 0, 10, 20, 10, 1, 1)), 1, api.OK},
		{"the centre on the edge at the left", of(post, block(0, 0, 10, 10, 20, 1, 1)), 0, api.ErrNone},
		{"the centre beyond the edge at the left", of(post, block(0, 1, 10, 10, 20, 1, 1)), 1, api.OK},
		{"the centre beyond the edge at the right", of(post, block(0, -11, 10, 10, 20, 1, 1)), 1, api.OK},
		{"the centre on the corner", of(post, block(0, 0, 10, 20, 20, 1, 1)), 0, api.ErrNone},
		{"a weight behind", of(post, block(0, 0, 10, 30, 10, 1, 1), block(0, 0, 11, 10, 10, 1, 1)), 0, api.ErrNone},
		{"a weight ahead", of(post, block(0, 0, 10, 20, 10, 1, 3), block(10, 0, 11, 10, 10, 1, 1)), 1, api.OK},
		{"no mass", of(post, block(0, 0, 10, 20, 10, 1, 0)), 0, api.ErrNone},
		{"no mass, beyond the edge", of(post, block(0, 0, 10, 21, 10, 1, 0)), 1, api.OK},
		{"no mass, with a weight", of(post, block(0, 0, 10, 100, 10, 1, 0), block(0, 0, 11, 2, 10, 1, 1)), 0, api.ErrNone},
		{"no mass at all: only the piece counts", of(post, block(0, 0, 10, 20, 10, 1, 0), block(10, 0, 11, 10, 10, 1, 0)), 0, api.ErrNone},
		{"between two posts", of(post, block(90, 0, 0, 10, 10, 10, 1), block(0, 0, 10, 100, 10, 1, 1)), 0, api.ErrNone},
		{"between posts in three corners", of(post, block(90, 0, 0, 10, 10, 10, 1), block(0, 90, 0, 10, 10, 10, 1), block(0, 0, 10, 100, 100, 1, 1)), 0, api.ErrNone},
		{"beyond posts in three corners", of(post, block(90, 0, 0, 10, 10, 10, 1), block(0, 90, 0, 10, 10, 10, 1), block(0, 0, 10, 111, 111, 1, 1)), 3, api.OK},
		{"the first one of two", of(block(0, 0, 5, 1, 1, 1, 1), block(0, 0, 7, 1, 1, 1, 1)), 0, api.OK},
		{"what it rests on falls, too, but comes later", of(block(0, 0, 6, 1, 1, 1, 1), block(0, 0, 5, 1, 1, 1, 1)), 1, api.OK},
	} {
		i, e := load.Falls(x.l)
		check(t, x.what, i, e, x.i, x.e)
	}
}

// P2.5: the centre is not rounded, at the greatest masses and sizes.
func TestFallsByLittle(t *testing.T) {
	l := of(
		block(-side, -side, 0, side, 2*side, 1, 0),
		block(-side, -side, 1, 2*side, 2*side, 1, 1<<24-2),
		block(0, 0, 2, 1, 1, 1, 1), block(-1, 0, 2, 1, 1, 1, 1),
	)
	i, e := load.Falls(l)
	check(t, "the centre on the edge", i, e, 0, api.ErrNone)
	l.Pieces[3].X++
	i, e = load.Falls(l)
	check(t, "the centre a little beyond", i, e, 1, api.OK)
	l.Pieces[3].X -= 2
	i, e = load.Falls(l)
	check(t, "the centre a little inside", i, e, 0, api.ErrNone)
}

// heap returns a load of few millimetres: many of its pieces rest on others, and many centres are on edges.
func heap(r *rand.Rand) api.Load {
	l := of()
	for range from(r, 1, 7) {
		l.Pieces = append(l.Pieces, block(from(r, 0, 3), from(r, 0, 3), from(r, 0, 3), from(r, 1, 4), from(r, 1, 4), from(r, 1, 2), from(r, 0, 2)))
	}
	l.Pieces = append(l.Pieces, block(from(r, 0, 3), 0, 0, 4, 4, 1, 1))
	return l
}

// P2.4, P2.5
func TestStacksByChance(t *testing.T) {
	r := chance(5)
	for range 3000 {
		l := heap(r)
		all := carriesOf(l)
		want, wantErr := 0, api.ErrNone
		for i, p := range l.Pieces {
			var rests, carries []int
			for k, q := range l.Pieces {
				if restsOn(p, q) {
					rests = append(rests, k)
				}
				if all[i][k] {
					carries = append(carries, k)
				}
			}
			got, e := load.Rests(l, i)
			checkList(t, "Rests", got, e, rests, api.OK)
			got, e = load.Carries(l, i)
			checkList(t, "Carries", got, e, carries, api.OK)
			if wantErr != api.OK && !standsOf(l, i) {
				want, wantErr = i, api.OK
			}
		}
		i, e := load.Falls(l)
		check(t, "Falls", i, e, want, wantErr)
		a, b, e := load.Overlap(l)
		pair, pairErr := overlapOf(l)
		check(t, "Overlap", [2]int{a, b}, e, pair, pairErr)
	}
}

// overlapOf returns the first two pieces with a point of halves inside of both.
func overlapOf(l api.Load) ([2]int, api.Errno) {
	inside := func(p api.Piece, x, y, z int64) bool {
		return 2*p.X < x && x < 2*(p.X+p.L) && 2*p.Y < y && y < 2*(p.Y+p.W) && 2*p.Z < z && z < 2*(p.Z+p.H)
	}
	for i, p := range l.Pieces {
		for k := i + 1; k < len(l.Pieces); k++ {
			for n := range int64(16 * 16 * 16) {
				x, y, z := n%16, n/16%16, n/256
				if inside(p, x, y, z) && inside(l.Pieces[k], x, y, z) {
					return [2]int{i, k}, api.OK
				}
			}
		}
	}
	return [2]int{}, api.ErrNone
}

// P2.18
func TestStacks(t *testing.T) {
	r := chance(6)
	stand := 0
	for range 3000 {
		l := heap(r)
		_, falls := load.Falls(l)
		if falls == api.ErrNone {
			stand++
		}
		for i, p := range l.Pieces {
			rests := must[[]int](t, "Rests")(load.Rests(l, i))
			if falls == api.ErrNone && p.Z > 0 && len(rests) == 0 {
				t.Errorf("the piece %d of %v rests on nothing, and nothing falls", i, l)
			}
			carries := must[[]int](t, "Carries")(load.Carries(l, i))
			for _, k := range rests {
				below := must[[]int](t, "Carries")(load.Carries(l, k))
				for _, c := range carries {
					if !slices.Contains(below, c) {
						t.Errorf("in %v %d rests on %d, and carries %d, but %d does not", l, i, k, c, k)
					}
				}
			}
		}
	}
	if stand < 100 {
		t.Errorf("only %d loads stand", stand)
	}
}
