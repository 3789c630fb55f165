package load_test

import (
	"math"
	"slices"
	"strings"
	"testing"

	"gooseneck/api"
	"gooseneck/load"
)

// P2.1: how many pieces and eyes there are comes ahead of what they are.
func TestCheckMany(t *testing.T) {
	unit := block(0, 0, 0, 1, 1, 1, 1)
	bad := block(0, 0, 0, 0, 1, 1, 1)
	for _, x := range []struct {
		what         string
		pieces, eyes int
		piece        api.Piece
		want         api.Errno
	}{
		{"no pieces", 0, 0, unit, api.ErrMany},
		{"one piece", 1, 0, unit, api.OK},
		{"as many pieces as there may be", 32, 0, unit, api.OK},
		{"a piece too many", 33, 0, unit, api.ErrMany},
		{"as many eyes as there may be", 1, 32, unit, api.OK},
		{"an eye too many", 1, 33, unit, api.ErrMany},
		{"both as many as there may be", 32, 32, unit, api.OK},
		{"a piece too many, not valid", 33, 0, bad, api.ErrMany},
		{"an eye too many, a piece not valid", 1, 33, bad, api.ErrMany},
		{"not valid", 32, 32, bad, api.ErrArg},
	} {
		l := with(of(slices.Repeat([]api.Piece{x.piece}, x.pieces)...), slices.Repeat([]api.Eye{{}}, x.eyes)...)
		checkErr(t, x.what, load.Check(l), x.want)
	}
	checkErr(t, "no load at all", load.Check(api.Load{}), api.ErrMany)
	checkErr(t, "no pieces, an empty list", load.Check(api.Load{Name: "B", Pieces: []api.Piece{}}), api.ErrMany)
}

// P2.1
func TestCheckPieces(t *testing.T) {
	for _, x := range []struct {
		what string
		p    api.Piece
		ok   bool
	}{
		{"the least corner", block(-side, -side, 0, 1, 1, 1, 1), true},
		{"from end to end", block(-side, -side, 0, 2*side, 2*side, side, 1<<24), true},
		{"the greatest corner", block(side-1, side-1, side-1, 1, 1, 1, 1), true},
		{"X below", block(-side-1, 0, 0, 1, 1, 1, 1), false},
		{"Y below", block(0, -side-1, 0, 1, 1, 1, 1), false},
		{"Z below", block(0, 0, -1, 1, 1, 1, 1), false},
		{"X at the end", block(side, 0, 0, 1, 1, 1, 1), false},
		{"Y at the end", block(0, side, 0, 1, 1, 1, 1), false},
		{"Z at the end", block(0, 0, side, 1, 1, 1, 1), false},
		{"X + L beyond", block(-side, 0, 0, 2*side+1, 1, 1, 1), false},
		{"Y + W beyond", block(0, -side, 0, 1, 2*side+1, 1, 1), false},
		{"Z + H beyond", block(0, 0, 5, 1, 1, side-4, 1), false},
		{"no L", block(0, 0, 0, 0, 1, 1, 1), false},
		{"no W", block(0, 0, 0, 1, 0, 1, 1), false},
		{"no H", block(0, 0, 0, 1, 1, 0, 1), false},
		{"L below 0", block(5, 0, 0, -1, 1, 1, 1), false},
		{"W below 0", block(0, 5, 0, 1, -1, 1, 1), false},
		{"H below 0", block(0, 0, 5, 1, 1, -1, 1), false},
		{"L so great that the sum wraps", block(1, 0, 0, math.MaxInt64, 1, 1, 1), false},
		{"X so little that the sum wraps", block(math.MinInt64, 0, 0, -1, 1, 1, 1), false},
		{"H so great that the sum wraps", block(0, 0, 1, 1, 1, math.MaxInt64, 1), false},
		{"a mass below 0", block(0, 0, 0, 1, 1, 1, -1), false},
		{"a mass beyond", block(0, 0, 0, 1, 1, 1, 1<<24+1), false},
	} {
		want := api.ErrArg
		if x.ok {
			want = api.OK
		}
		checkErr(t, x.what, load.Check(of(x.p)), want)
		// Another piece does not hide it, ahead of it or behind it.
		unit := block(0, 0, 0, 1, 1, 1, 0)
		checkErr(t, x.what+", first", load.Check(of(x.p, unit)), want)
		checkErr(t, x.what+", last", load.Check(of(unit, x.p)), want)
	}
}

// P2.1: the sum of all masses.
func TestCheckMass(t *testing.T) {
	for _, x := range []struct {
		what   string
		masses []int64
		want   api.Errno
	}{
		{"none", []int64{0}, api.ErrArg},
		{"none of several", []int64{0, 0, 0}, api.ErrArg},
		{"the least one", []int64{0, 1, 0}, api.OK},
		{"the greatest one", []int64{1 << 24}, api.OK},
		{"the greatest one of several", []int64{1<<24 - 2, 1, 1}, api.OK},
		{"one more", []int64{1<<24 - 2, 1, 2}, api.ErrArg},
		{"twice the greatest one", []int64{1 << 24, 1 << 24}, api.ErrArg},
		{"a sum that is right, of masses that are not", []int64{5, -1}, api.ErrArg},
		{"a sum that wraps", []int64{math.MinInt64, math.MinInt64, 1}, api.ErrArg},
	} {
		var l api.Load = of()
		for _, m := range x.masses {
			l.Pieces = append(l.Pieces, block(0, 0, 0, 1, 1, 1, m))
		}
		checkErr(t, x.what, load.Check(l), x.want)
	}
}

// P2.1
func TestCheckEyes(t *testing.T) {
	for _, x := range []struct {
		what string
		y    api.Eye
		want api.Errno
	}{
		{"the least one", eye(-side, -side, 0, 0), api.OK},
		{"the greatest one", eye(side, side, side, 1<<22), api.OK},
		{"X below", eye(-side-1, 0, 0, 0), api.ErrArg},
		{"X beyond", eye(side+1, 0, 0, 0), api.ErrArg},
		{"Y below", eye(0, -side-1, 0, 0), api.ErrArg},
		{"Y beyond", eye(0, side+1, 0, 0), api.ErrArg},
		{"Z below", eye(0, 0, -1, 0), api.ErrArg},
		{"Z beyond", eye(0, 0, side+1, 0), api.ErrArg},
		{"strength below 0", eye(0, 0, 0, -1), api.ErrArg},
		{"strength beyond", eye(0, 0, 0, 1<<22+1), api.ErrArg},
	} {
		checkErr(t, x.what, load.Check(with(of(block(0, 0, 0, 1, 1, 1, 1)), eye(0, 0, 0, 0), x.y)), x.want)
	}
}

// P2.1
func TestCheckNameAndFriction(t *testing.T) {
	l := of(block(0, 0, 0, 1, 1, 1, 1))
	for _, s := range []string{"a", "z", "0", "9", "x1y2", "abcdefghijklmnopqrst", "01234567890123456789"} {
		l.Name = s
		checkErr(t, s, load.Check(l), api.OK)
	}
	for _, s := range []string{
		"", "abcdefghijklmnopqrstu", "A", "aZ", "a b", " ", "a\n", "a-b", "_", "`", "{", "/", ":", "\u00e9", "a\u00e9", "\xff", "a\x00",
		strings.Repeat("a", 1000),
	} {
		l.Name = s
		checkErr(t, s, load.Check(l), api.ErrArg)
	}
	l.Name = "a"
	for _, f := range extremes {
		want := api.ErrArg
		if 0 <= f && f <= 1000 {
			want = api.OK
		}
		checkErr(t, "friction", load.Check(rubbing(l, f)), want)
	}
}
