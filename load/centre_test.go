package load_test

import (
	"math/big"
	"testing"

	"gooseneck/api"
	"gooseneck/load"
)

// P2.2
func TestMassAndCentre(t *testing.T) {
	for _, x := range []struct {
		what      string
		l         api.Load
		mass      int64
		moments   [3]int64
		centre    [3]int64
		low, high [3]int64
	}{
		{"the example", example(), 5000, [3]int64{9000000, 5000000, 6500000}, [3]int64{900, 500, 650},
			[3]int64{0, 0, 0}, [3]int64{2000, 1000, 1500}},
		{"halves go up", of(block(-1, -2, 0, 1, 1, 1, 5)), 5, [3]int64{-5, -15, 5}, [3]int64{0, -1, 1},
			[3]int64{-1, -2, 0}, [3]int64{0, -1, 1}},
		{"below a half goes down", of(block(0, -1, 0, 1, 1, 1, 1), block(-1, 0, 0, 1, 1, 1, 2)), 3, [3]int64{-1, 1, 3}, [3]int64{0, 0, 1},
			[3]int64{-1, -1, 0}, [3]int64{1, 1, 1}},
		{"pieces without mass", of(block(-9, 7, 3, 1, 1, 30, 0), block(10, 10, 10, 2, 4, 6, 3)), 3, [3]int64{66, 72, 78}, [3]int64{11, 12, 13},
			[3]int64{-9, 7, 3}, [3]int64{12, 14, 33}},
		{"the greatest one", of(block(side-1, side-1, side-1, 1, 1, 1, 1<<24)), 1 << 24,
			[3]int64{(2*side - 1) << 24, (2*side - 1) << 24, (2*side - 1) << 24}, [3]int64{side, side, side},
			[3]int64{side - 1, side - 1, side - 1}, [3]int64{side, side, side}},
		{"the least one", of(block(-side, -side, 0, 1, 1, 1, 1<<24)), 1 << 24,
			[3]int64{(1 - 2*side) << 24, (1 - 2*side) << 24, 1 << 24}, [3]int64{1 - side, 1 - side, 1},
			[3]int64{-side, -side, 0}, [3]int64{1 - side, 1 - side, 1}},
		{"each end from another piece", of(block(-5, 0, 2, 1, 1, 1, 1), block(0, -6, 1, 1, 1, 1, 1), block(3, 4, 5, 7, 8, 9, 1)), 3,
			[3]int64{5, 6, 27}, [3]int64{1, 1, 5}, [3]int64{-5, -6, 1}, [3]int64{10, 12, 14}},
	} {
		m, e := load.Mass(x.l)
		check(t, x.what+": Mass", m, e, x.mass, api.OK)
		s, e := load.Moments(x.l)
		check(t, x.what+": Moments", s, e, x.moments, api.OK)
		c, e := load.Centre(x.l)
		check(t, x.what+": Centre", c, e, x.centre, api.OK)
		low, high, e := load.Envelope(x.l)
		check(t, x.what+": Envelope", [2][3]int64{low, high}, e, [2][3]int64{x.low, x.high}, api.OK)
	}
}

// nearest is n / d and a half, rounded down, for d above 0.
func nearest(n, d int64) int64 {
	a := new(big.Int).Mul(big.NewInt(2), big.NewInt(n))
	a.Add(a, big.NewInt(d))
	return a.Div(a, big.NewInt(2*d)).Int64() // Div rounds down, as its divisor is above 0
}

// P2.2, P2.12: the centre is moment / (2 mass), and lies in the envelope.
func TestCentreByChance(t *testing.T) {
	r := chance(1)
	for range 300 {
		l := anyLoad(r, from(r, 1, 32), from(r, 1, side))
		m := must[int64](t, "Mass")(load.Mass(l))
		s := must[[3]int64](t, "Moments")(load.Moments(l))
		c := must[[3]int64](t, "Centre")(load.Centre(l))
		low, high, e := load.Envelope(l)
		checkErr(t, "Envelope", e, api.OK)
		for axis := range 3 {
			if c[axis] != nearest(s[axis], 2*m) {
				t.Errorf("Centre %v of the moments %v and the mass %d", c, s, m)
			}
			if 2*m*low[axis] > s[axis] || s[axis] > 2*m*high[axis] || low[axis] > c[axis] || c[axis] > high[axis] {
				t.Errorf("the centre %v is not from %v to %v", c, low, high)
			}
		}
	}
}

// P2.12: turned and shifted loads have their centres turned and shifted; moments and masses of joined loads are added.
func TestCentreOfChanged(t *testing.T) {
	r := chance(2)
	moments := func(l api.Load) [3]int64 { return must[[3]int64](t, "Moments")(load.Moments(l)) }
	mass := func(l api.Load) int64 { return must[int64](t, "Mass")(load.Mass(l)) }
	for range 200 {
		a, b := anyLoad(r, 8, 1000), anyLoad(r, 8, 1000)
		for i := range a.Pieces {
			a.Pieces[i].Mass /= 2
		}
		a.Pieces[0].Mass++
		for i := range b.Pieces {
			b.Pieces[i].Mass /= 2
		}
		s, m := moments(a), mass(a)
		b.Pieces[0].Mass = min(b.Pieces[0].Mass, 1) // so that the sum is not beyond the limit
		if turned := must[api.Load](t, "Turned")(load.Turned(a, 1)); moments(turned) != [3]int64{-s[1], s[0], s[2]} || mass(turned) != m {
			t.Errorf("the moments %v turned: %v", s, moments(turned))
		}
		dx, dy, dz := from(r, -1000, 1000), from(r, -1000, 1000), from(r, 0, 1000)
		if shifted := must[api.Load](t, "Shifted")(load.Shifted(a, dx, dy, dz)); moments(shifted) != [3]int64{s[0] + 2*m*dx, s[1] + 2*m*dy, s[2] + 2*m*dz} {
			t.Errorf("the moments %v shifted by %d %d %d: %v", s, dx, dy, dz, moments(shifted))
		}
		joined, o := must[api.Load](t, "Joined")(load.Joined(a, b)), moments(b)
		if mass(joined) != m+mass(b) || moments(joined) != [3]int64{s[0] + o[0], s[1] + o[1], s[2] + o[2]} {
			t.Errorf("the moments %v and %v joined: %v", s, o, moments(joined))
		}
	}
}
