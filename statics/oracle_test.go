package statics_test

import (
	"math/big"
	"slices"

	"gooseneck/api"
)

// What follows computes results once more, from the words of the chapter, with numbers of any size.

func whole(n int64) *big.Rat { return new(big.Rat).SetInt64(n) }

func ratio(n, d *big.Rat) *big.Rat { return new(big.Rat).Quo(n, d) }

func times(l ...*big.Rat) *big.Rat {
	product := whole(1)
	for _, n := range l {
		product.Mul(product, n)
	}
	return product
}

func plus(l ...*big.Rat) *big.Rat {
	sum := whole(0)
	for _, n := range l {
		sum.Add(sum, n)
	}
	return sum
}

func minus(a, b *big.Rat) *big.Rat { return new(big.Rat).Sub(a, b) }

// downOf returns a number, rounded down: the division of package big has a rest from 0 on.
func downOf(n *big.Rat) int64 {
	return new(big.Int).Div(n.Num(), n.Denom()).Int64()
}

func upOf(n *big.Rat) int64 { return -downOf(times(whole(-1), n)) }

func nearestOf(n *big.Rat) int64 { return downOf(plus(n, big.NewRat(1, 2))) }

func sumsOf(p []api.Support) [3][3]int64 {
	var rows [3][3]int64
	for _, s := range p {
		rows[s.Group][0]++
		rows[s.Group][1] += s.X
		rows[s.Group][2] += s.Y
	}
	return rows
}

// determinantOf is written as the chapter writes it.
func determinantOf(rows [3][3]int64) *big.Rat {
	n := func(i int) *big.Rat { return whole(rows[i][0]) }
	x := func(i int) *big.Rat { return whole(rows[i][1]) }
	y := func(i int) *big.Rat { return whole(rows[i][2]) }
	first := times(n(0), minus(times(x(1), y(2)), times(x(2), y(1))))
	second := times(x(0), minus(times(n(1), y(2)), times(n(2), y(1))))
	third := times(y(0), minus(times(n(1), x(2)), times(n(2), x(1))))
	return plus(minus(first, second), third)
}

// partsOf returns the parts, and the whole, of a platform that can stand.
func partsOf(p []api.Support, at api.Point) ([3]*big.Rat, *big.Rat) {
	all := determinantOf(sumsOf(p))
	sign := whole(int64(all.Sign()))
	var l [3]*big.Rat
	for g := range l {
		rows := sumsOf(p)
		rows[g] = [3]int64{1, at.X, at.Y}
		l[g] = times(sign, determinantOf(rows))
	}
	return l, times(sign, all)
}

// tipsOf returns the first group whose part is below 0, or -1.
func tipsOf(p []api.Support, at api.Point) int {
	l, _ := partsOf(p, at)
	for g, part := range l {
		if part.Sign() < 0 {
			return g
		}
	}
	return -1
}

func sharesOf(p []api.Support, mass int64, at api.Point) ([3]int64, api.Errno) {
	if tipsOf(p, at) >= 0 {
		return [3]int64{}, api.ErrTip
	}
	l, all := partsOf(p, at)
	var shares [3]int64
	for g, part := range l {
		carried := ratio(times(whole(mass), part), all)
		for _, s := range p {
			if s.Group == g && carried.Cmp(whole(s.Limit)) > 0 {
				return [3]int64{}, api.ErrLimit
			}
		}
		shares[g] = upOf(carried)
	}
	return shares, api.OK
}

func blownOf(c [3]int64, s, a, wind api.Slope, height, mass int64) api.Point {
	add := func(from, s, a, wind int64) int64 {
		return from + nearestOf(big.NewRat(c[2]*(s+a), 1000)) + nearestOf(big.NewRat(wind*height, mass))
	}
	return pt(add(c[0], s.X, a.X, wind.X), add(c[1], s.Y, a.Y, wind.Y))
}

func tiltOf(p []api.Support, c [3]int64, way api.Slope) (int64, api.Errno) {
	n, e := int64(0), api.ErrTip
	for k := int64(0); k <= 1000; k++ {
		s := slope(k*way.X, k*way.Y)
		if max(s.X, -s.X, s.Y, -s.Y) > 1000 || tipsOf(p, blownOf(c, s, api.Slope{}, api.Slope{}, 0, 1)) >= 0 {
			break
		}
		n, e = k, api.OK
	}
	return n, e
}

func heightOf(p []api.Support, filling [3]int64, ground []int64, at api.Point) (int64, api.Errno) {
	l, all := partsOf(p, at)
	var sum int64
	for g, part := range l {
		if new(big.Rat).Abs(part).Cmp(times(whole(1024), all)) > 0 {
			return 0, api.ErrOver
		}
		level := filling[g]
		for i, s := range p {
			if s.Group == g {
				level += ground[i]
			}
		}
		sum += downOf(ratio(times(whole(level), part), all))
	}
	return sum, api.OK
}

func strokesOf(p []api.Support, filling [3]int64, ground []int64) ([]int64, api.Errno) {
	var l []int64
	for i, s := range p {
		h, e := heightOf(p, filling, ground, pt(s.X, s.Y))
		if e != api.OK {
			return nil, e
		}
		if h-ground[i] < s.Least || h-ground[i] > s.Most {
			return nil, api.ErrLimit
		}
		l = append(l, h-ground[i])
	}
	return l, api.OK
}

// divisionsOf returns the groups of the supports for all divisions.
func divisionsOf(p []api.Support) [][]int {
	order := make([]int, 0, len(p))
	for i, s := range p { // each support is put behind those that do not come after it
		k := len(order)
		for k > 0 {
			o := p[order[k-1]]
			if o.X < s.X || o.X == s.X && o.Y <= s.Y {
				break
			}
			k--
		}
		order = slices.Insert(order, k, i)
	}
	split := func(others []int) []int {
		mean := whole(0)
		for _, i := range others {
			mean = plus(mean, big.NewRat(p[i].Y, int64(len(others))))
		}
		groups := make([]int, len(p))
		for _, i := range others {
			groups[i] = 2
			if whole(p[i].Y).Cmp(mean) > 0 {
				groups[i] = 1
			}
		}
		return groups
	}
	var all [][]int
	for k := 1; k <= len(p)-2; k++ {
		all = append(all, split(order[k:]), split(order[:len(p)-k]))
	}
	return all
}

// regrouped returns a platform with other groups.
func regrouped(p []api.Support, groups []int) []api.Support {
	p = slices.Clone(p)
	for i, g := range groups {
		p[i].Group = g
	}
	return p
}

// loadOf returns the load of a division, and whether it is possible.
func loadOf(p []api.Support, groups []int, mass int64, at api.Point) (int64, bool) {
	p = regrouped(p, groups)
	if determinantOf(sumsOf(p)).Sign() == 0 {
		return 0, false
	}
	shares, e := sharesOf(p, mass, at)
	return slices.Max(shares[:]), e == api.OK
}

func divideOf(p []api.Support, mass int64, at api.Point) (api.Regroup, api.Errno) {
	best, e := api.Regroup{}, api.ErrPlan
	for _, groups := range divisionsOf(p) {
		if load, isPossible := loadOf(p, groups, mass, at); isPossible && (e != api.OK || load < best.Load) {
			best, e = api.Regroup{Groups: groups, Load: load}, api.OK
		}
	}
	return best, e
}
