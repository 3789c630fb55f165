package statics_test

import (
	"math/big"
	"slices"
	"testing"

	"gooseneck/api"
	"gooseneck/statics"
)

// P4.10
func TestBalance(t *testing.T) {
	r := chance(14)
	for range 1000 {
		p := anyPlatform(t, r, 48, from(r, 1, side))
		at := pt(from(r, -2*side, 2*side), from(r, -2*side, 2*side))
		l, d, e := statics.Parts(p, at)
		rows, e2 := statics.Sums(p)
		if e != api.OK || e2 != api.OK || d <= 0 {
			t.Fatalf("the whole is %d, the errors are %d and %d", d, e, e2)
		}
		for column, want := range []int64{1, at.X, at.Y} {
			sum := whole(0)
			for g := range 3 {
				sum = plus(sum, times(whole(l[g]), whole(rows[g][column])))
			}
			if sum.Cmp(times(whole(d), whole(want))) != 0 {
				t.Fatalf("the parts of %v at %v are %v of %d: column %d is %v", p, at, l, d, column, sum)
			}
		}
	}
}

// middle returns the middle of a group, which need not be whole.
func middle(p []api.Support, g int) [2]*big.Rat {
	row := sumsOf(p)[g]
	return [2]*big.Rat{big.NewRat(row[1], row[0]), big.NewRat(row[2], row[0])}
}

// leftOf returns the sign of the turn from a over b to c.
func leftOf(a, b, c [2]*big.Rat) int {
	return minus(times(minus(b[0], a[0]), minus(c[1], a[1])), times(minus(b[1], a[1]), minus(c[0], a[0]))).Sign()
}

// P4.11: a platform tips just if the point is outside of the triangle of the middles; the group that is returned proves it.
func TestTippingIsProved(t *testing.T) {
	r := chance(15)
	tipped := 0
	for range 3000 {
		p := anyPlatform(t, r, from(r, 3, 12), from(r, 1, 1<<from(r, 1, 17)))
		at := amid(r, p)
		point := [2]*big.Rat{whole(at.X), whole(at.Y)}
		isOutside := false
		for g := range 3 {
			a, b := middle(p, (g+1)%3), middle(p, (g+2)%3)
			isOutside = isOutside || leftOf(a, b, point)*leftOf(a, b, middle(p, g)) < 0
		}
		g, e := statics.Tips(p, at)
		if (e == api.OK) != isOutside || e != api.OK && e != api.ErrNone {
			t.Fatalf("Tips of %v at %v: %d, %d", p, at, g, e)
		}
		if e != api.OK {
			continue
		}
		tipped++
		if a, b := middle(p, (g+1)%3), middle(p, (g+2)%3); leftOf(a, b, point)*leftOf(a, b, middle(p, g)) != -1 {
			t.Fatalf("Tips of %v at %v: %d, which does not prove it", p, at, g)
		}
	}
	if tipped < 300 || tipped > 2700 {
		t.Errorf("%d of 3000 tip", tipped)
	}
}

// free returns any platform whose axles bear all that there can be.
func free(t *testing.T, n, most int64, seed uint64) func() []api.Support {
	r := chance(seed)
	return func() []api.Support {
		t.Helper()
		return limited(anyPlatform(t, r, n, most), api.MaxLoad)
	}
}

// P4.12: what all axles carry; a greater mass makes no share less.
func TestSumOfShares(t *testing.T) {
	r, next := chance(16), free(t, 48, side, 17)
	fine := 0
	for range 1500 {
		p := next()
		at, mass := amid(r, p), from(r, 1, 1<<20)
		shares, e := statics.Shares(p, mass, at)
		more, e2 := statics.Shares(p, mass+from(r, 0, 99), at)
		if e != api.OK || e2 != api.OK {
			continue
		}
		fine++
		var sum int64
		for g, row := range sumsOf(p) {
			sum += row[0] * shares[g]
			if more[g] < shares[g] {
				t.Fatalf("%d carry %v, and more %v", mass, shares, more)
			}
		}
		if sum < mass || sum > mass+int64(len(p)) {
			t.Fatalf("%d axles carry %d of %d", len(p), sum, mass)
		}
	}
	if fine < 500 {
		t.Errorf("only %d stand", fine)
	}
}

// P4.12: at the middle of a group its axles carry all of it.
func TestSharesAtMiddle(t *testing.T) {
	r, next := chance(18), free(t, 8, 50, 19)
	fine := 0
	for range 3000 {
		p := next()
		rows := sumsOf(p)
		for g, row := range rows {
			if row[1]%row[0] != 0 || row[2]%row[0] != 0 {
				continue
			}
			fine++
			mass := from(r, 1, 1<<20)
			var want [3]int64
			want[g] = (mass + row[0] - 1) / row[0]
			got, e := statics.Shares(p, mass, pt(row[1]/row[0], row[2]/row[0]))
			check(t, "at a middle", got, e, want, api.OK)
		}
	}
	if fine < 1000 {
		t.Errorf("only %d middles are whole", fine)
	}
}

// P4.13: supports of a group are exchanged, and all are moved with the point.
func TestExchangedAndMoved(t *testing.T) {
	r := chance(20)
	for range 500 {
		p := anyPlatform(t, r, 48, from(r, 1, side/2))
		at, mass := amid(r, p), from(r, 1, 1<<from(r, 0, 20))
		want, wantErr := statics.Shares(p, mass, at)
		i := r.IntN(len(p))
		for k := range p {
			if p[k].Group != p[i].Group {
				continue
			}
			other := slices.Clone(p) // the places alone are exchanged: the axles of a group carry the same
			other[i].X, other[i].Y, other[k].X, other[k].Y = p[k].X, p[k].Y, p[i].X, p[i].Y
			got, e := statics.Shares(other, mass, at)
			check(t, "exchanged places", got, e, want, wantErr)
			got, e = statics.Shares(swapped(p, i, k), mass, at)
			check(t, "exchanged", got, e, want, wantErr)
		}
		dx, dy := from(r, -side/2, side/2), from(r, -side/2, side/2)
		got, e := statics.Shares(moved(p, dx, dy), mass, pt(at.X+dx, at.Y+dy))
		check(t, "moved", got, e, want, wantErr)
	}
}
