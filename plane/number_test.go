package plane_test

import (
	"math"
	"math/big"
	"testing"

	"gooseneck/api"
	"gooseneck/plane"
)

// P1.1
func TestFloor(t *testing.T) {
	for _, x := range []struct{ n, d, want int64 }{
		{-7, 2, -4}, {7, 2, 3}, {-8, 2, -4}, {8, 2, 4}, {0, 5, 0}, {-1, 3, -1}, {1, 3, 0},
		{1 << 61, 1, 1 << 61}, {-1 << 61, 1, -1 << 61}, {1 << 61, 1 << 61, 1}, {-1 << 61, 1 << 61, -1},
		{1<<61 - 1, 1 << 61, 0}, {-1, 1 << 61, -1}, {-1 << 61, 3, -768614336404564651},
	} {
		n, e := plane.Floor(x.n, x.d)
		checkNumber(t, "Floor", n, e, x.want, api.OK)
	}
}

// P1.1
func TestNearest(t *testing.T) {
	for _, x := range []struct{ n, d, want int64 }{
		{-7, 2, -3}, {7, 2, 4}, {1, 2, 1}, {-1, 2, 0}, {-3, 2, -1}, {4, 3, 1}, {5, 3, 2}, {-4, 3, -1}, {-5, 3, -2},
		{1, 3, 0}, {2, 3, 1}, {0, 7, 0}, {9, 3, 3}, {-9, 3, -3},
		{1 << 61, 1, 1 << 61}, {-1 << 61, 1, -1 << 61}, {1 << 61, 1 << 61, 1}, {-1 << 61, 1 << 61, -1},
		{1 << 60, 1 << 61, 1}, {-1 << 60, 1 << 61, 0}, {1<<60 - 1, 1 << 61, 0}, {-1<<60 - 1, 1 << 61, -1},
	} {
		n, e := plane.Nearest(x.n, x.d)
		checkNumber(t, "Nearest", n, e, x.want, api.OK)
	}
}

// P1.1
func TestQuotientsByChance(t *testing.T) {
	d := &dice{1}
	for range 2000 {
		bits := d.roll(0, 61)
		n, m := d.roll(-1<<bits, 1<<bits), d.roll(1, 1<<d.roll(0, 61))
		got, e := plane.Floor(n, m)
		checkNumber(t, "Floor", got, e, floorOf(big.NewInt(n), big.NewInt(m)), api.OK)
		got, e = plane.Nearest(n, m)
		checkNumber(t, "Nearest", got, e, nearestOf(big.NewInt(n), big.NewInt(m)), api.OK)
	}
}

// P1.1: both numbers of a quotient at the limit, and one beyond it.
func TestQuotientErrors(t *testing.T) {
	for _, x := range [][2]int64{
		{1<<61 + 1, 1}, {-1<<61 - 1, 1}, {math.MinInt64, 1}, {math.MaxInt64, 1}, {1, 0}, {1, -1}, {0, 0},
		{1, 1<<61 + 1}, {1, math.MaxInt64}, {1, math.MinInt64}, {1, -1 << 61}, {math.MinInt64, -1},
	} {
		n, e := plane.Floor(x[0], x[1])
		checkNumber(t, "Floor", n, e, 0, api.ErrRange)
		n, e = plane.Nearest(x[0], x[1])
		checkNumber(t, "Nearest", n, e, 0, api.ErrRange)
	}
}

// P1.1
func TestRoot(t *testing.T) {
	const most = 3037000499
	for _, x := range [][2]int64{
		{0, 0}, {1, 1}, {2, 1}, {3, 1}, {4, 2}, {8, 2}, {9, 3}, {99, 9}, {100, 10},
		{1 << 62, 1 << 31}, {1<<62 + 5, 1 << 31}, {1<<62 - 1, 1<<31 - 1},
		{most * most, most}, {most*most - 1, most - 1}, {math.MaxInt64, most},
	} {
		n, e := plane.Root(x[0])
		checkNumber(t, "Root", n, e, x[1], api.OK)
	}
	d := &dice{2}
	for range 2000 {
		x := d.roll(0, 1<<d.roll(0, 62))
		n, e := plane.Root(x)
		checkNumber(t, "Root", n, e, new(big.Int).Sqrt(big.NewInt(x)).Int64(), api.OK)
	}
	for _, x := range []int64{-1, -4, math.MinInt64} {
		n, e := plane.Root(x)
		checkNumber(t, "Root", n, e, 0, api.ErrArg)
	}
}
