package load_test

import (
	"math"
	"slices"
	"testing"

	"gooseneck/api"
	"gooseneck/load"
)

// P2.6
func TestTurned(t *testing.T) {
	l := with(of(block(1, 2, 3, 4, 5, 6, 7), block(-9, 0, 0, 1, 2, 3, 0)), eye(1, 2, 3, 4), eye(-5, 0, 6, 7))
	left := with(of(block(-7, 1, 3, 5, 4, 6, 7), block(-2, -9, 0, 2, 1, 3, 0)), eye(-2, 1, 3, 4), eye(0, -5, 6, 7))
	half := with(of(block(-5, -7, 3, 4, 5, 6, 7), block(8, -2, 0, 1, 2, 3, 0)), eye(-1, -2, 3, 4), eye(5, 0, 6, 7))
	right := with(of(block(2, -5, 3, 5, 4, 6, 7), block(0, 8, 0, 2, 1, 3, 0)), eye(2, -1, 3, 4), eye(0, 5, 6, 7))
	for _, x := range []struct {
		quarters int
		want     api.Load
	}{
		{0, l}, {1, left}, {2, half}, {3, right}, {4, l}, {5, left}, {-1, right}, {-2, half}, {-3, left}, {-4, l}, {-5, right},
		{math.MaxInt, right}, {math.MinInt, l}, {math.MinInt + 1, left},
	} {
		got, e := load.Turned(l, x.quarters)
		checkLoad(t, "Turned", got, e, x.want, api.OK)
	}
	got := must[api.Load](t, "Turned")(load.Turned(example(), 1))
	check(t, "the first piece of the example, turned", got.Pieces[0], api.OK, block(-1000, 0, 0, 1000, 2000, 1000, 4000), api.OK)
	if got.Name != "box" || got.Friction != 300 {
		t.Errorf("the example, turned: %v", got)
	}
}

// P2.6, P2.13: a valid load is valid when it is turned, and four quarter turns change nothing.
func TestTurnedByChance(t *testing.T) {
	r := chance(7)
	for range 300 {
		l := anyLoad(r, 9, side)
		turned := l
		for quarters := range 5 {
			got, e := load.Turned(l, quarters)
			checkLoad(t, "Turned", got, e, turned, api.OK)
			turned = must[api.Load](t, "Turned")(load.Turned(turned, 1))
		}
		back, e := load.Turned(must[api.Load](t, "Turned")(load.Turned(l, 1)), -1)
		checkLoad(t, "Turned to the left, and back", back, e, l, api.OK)
		for i, p := range must[api.Load](t, "Turned")(load.Turned(l, 1)).Pieces {
			q := l.Pieces[i]
			if p.X != -q.Y-q.W || p.X+p.L != -q.Y || p.Y != q.X || p.Y+p.W != q.X+q.L || p.Z != q.Z || p.H != q.H || p.Mass != q.Mass {
				t.Errorf("%v turned: %v", q, p)
			}
		}
	}
}

// P2.6
func TestShifted(t *testing.T) {
	l := with(of(block(1, 2, 3, 4, 5, 6, 7), block(0, 0, 9, 1, 1, 1, 0)), eye(-1, -2, 8, 9))
	for _, x := range []struct {
		what       string
		dx, dy, dz int64
		want       api.Load
		e          api.Errno
	}{
		{"by nothing", 0, 0, 0, l, api.OK},
		{"by something", 10, -20, 30, with(of(block(11, -18, 33, 4, 5, 6, 7), block(10, -20, 39, 1, 1, 1, 0)), eye(9, -22, 38, 9)), api.OK},
		{"as far down as it can", 0, 0, -3, with(of(block(1, 2, 0, 4, 5, 6, 7), block(0, 0, 6, 1, 1, 1, 0)), eye(-1, -2, 5, 9)), api.OK},
		{"as far forward as it can", side - 5, 0, 0, with(of(block(side-4, 2, 3, 4, 5, 6, 7), block(side-5, 0, 9, 1, 1, 1, 0)), eye(side-6, -2, 8, 9)), api.OK},
		{"as far back as it can: the eye", 1 - side, 0, 0, with(of(block(2-side, 2, 3, 4, 5, 6, 7), block(1-side, 0, 9, 1, 1, 1, 0)), eye(-side, -2, 8, 9)), api.OK},
		{"too far down", 0, 0, -4, api.Load{}, api.ErrOver},
		{"too far forward", side - 4, 0, 0, api.Load{}, api.ErrOver},
		{"too far back, the eye only", -side, 0, 0, api.Load{}, api.ErrOver},
		{"too far to the left", 0, side - 6, 0, api.Load{}, api.ErrOver},
		{"too far to the right", 0, 1 - side, 0, api.Load{}, api.ErrOver},
		{"too far up", 0, 0, side - 9, api.Load{}, api.ErrOver},
		{"X at the limit", 2 * side, 0, 0, api.Load{}, api.ErrOver},
		{"Y at the limit", 0, -2 * side, 0, api.Load{}, api.ErrOver},
		{"Z at the limit", 0, 0, 2 * side, api.Load{}, api.ErrOver},
		{"X beyond the limit", 2*side + 1, 0, 0, api.Load{}, api.ErrRange},
		{"X below the limit", -2*side - 1, 0, 0, api.Load{}, api.ErrRange},
		{"Y beyond the limit", 0, 2*side + 1, 0, api.Load{}, api.ErrRange},
		{"Y below the limit", 0, -2*side - 1, 0, api.Load{}, api.ErrRange},
		{"Z beyond the limit", 0, 0, 2*side + 1, api.Load{}, api.ErrRange},
		{"Z below the limit", 0, 0, -2*side - 1, api.Load{}, api.ErrRange},
		{"the least number", math.MinInt64, 0, 0, api.Load{}, api.ErrRange},
		{"the greatest number", 0, 0, math.MaxInt64, api.Load{}, api.ErrRange},
	} {
		got, e := load.Shifted(l, x.dx, x.dy, x.dz)
		checkLoad(t, x.what, got, e, x.want, x.e)
	}
	wide := of(block(-side, 0, 0, 1, 1, 1, 1))
	got, e := load.Shifted(wide, 2*side-1, 0, 0)
	checkLoad(t, "from end to end", got, e, of(block(side-1, 0, 0, 1, 1, 1, 1)), api.OK)
}

// P2.6
func TestJoined(t *testing.T) {
	a := with(of(block(0, 0, 0, 1, 2, 3, 4), block(5, 0, 0, 1, 1, 1, 0)), eye(1, 2, 3, 4))
	b := with(rubbing(of(block(9, 9, 9, 8, 7, 6, 5)), 499), eye(5, 6, 7, 8), eye(0, 0, 0, 0))
	b.Name = "b"
	want := with(rubbing(of(slices.Concat(a.Pieces, b.Pieces)...), 499), slices.Concat(a.Eyes, b.Eyes)...)
	got, e := load.Joined(a, b)
	checkLoad(t, "Joined", got, e, want, api.OK)
	b.Friction = 501
	got, e = load.Joined(a, b)
	checkLoad(t, "Joined, the first friction", got, e, rubbing(want, 500), api.OK)
	got, e = load.Joined(b, a)
	want = with(of(slices.Concat(b.Pieces, a.Pieces)...), slices.Concat(b.Eyes, a.Eyes)...)
	want.Name = "b"
	checkLoad(t, "Joined the other way round", got, e, want, api.OK)
}

// P2.6: the errors of the first load, of the second one, of their lists, and of the result.
func TestJoinedErrors(t *testing.T) {
	many := func(pieces, eyes int, mass int64) api.Load {
		l := with(of(slices.Repeat([]api.Piece{block(0, 0, 0, 1, 1, 1, 0)}, pieces)...), slices.Repeat([]api.Eye{{}}, eyes)...)
		l.Pieces[0].Mass = mass
		return l
	}
	bad, none := rubbing(many(1, 0, 1), -1), api.Load{}
	for _, x := range []struct {
		what string
		a, b api.Load
		want api.Errno
	}{
		{"as many as there may be", many(20, 20, 1), many(12, 12, 1), api.OK},
		{"a piece too many", many(20, 0, 1), many(13, 0, 1), api.ErrMany},
		{"an eye too many", many(1, 20, 1), many(1, 13, 1), api.ErrMany},
		{"the greatest mass", many(1, 0, 1<<24-1), many(1, 0, 1), api.OK},
		{"more than the greatest mass", many(1, 0, 1<<24), many(1, 0, 1), api.ErrOver},
		{"a piece too many, and too much mass", many(20, 0, 1<<24), many(13, 0, 1), api.ErrMany},
		{"the first one not valid", bad, many(1, 0, 1), api.ErrArg},
		{"the second one not valid", many(1, 0, 1), bad, api.ErrArg},
		{"the second one not valid, a piece too many", many(32, 0, 1), bad, api.ErrArg},
		{"the first one empty", none, bad, api.ErrMany},
		{"the second one empty", many(1, 0, 1), none, api.ErrMany},
		{"the first one not valid, the second one empty", bad, none, api.ErrArg},
	} {
		got, e := load.Joined(x.a, x.b)
		checkErr(t, x.what, e, x.want)
		if e != api.OK && !same(got, api.Load{}) {
			t.Errorf("%s: %v with an error", x.what, got)
		}
	}
}
