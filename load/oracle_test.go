package load_test

import (
	"cmp"
	"math/big"
	"slices"

	"gooseneck/api"
)

// What follows computes results once more, from the words of the chapter, without regard to time.

func comparePoints(a, b api.Point) int { return cmp.Or(cmp.Compare(a.X, b.X), cmp.Compare(a.Y, b.Y)) }

// turnOf returns the turn of three points: its sign counts.
func turnOf(a, b, c api.Point) int64 { return (b.X-a.X)*(c.Y-a.Y) - (b.Y-a.Y)*(c.X-a.X) }

// hullOf returns the hull of points: the corners below, from the left to the right, and those above, back again.
func hullOf(l []api.Point) []api.Point {
	sorted := slices.Clone(l)
	slices.SortFunc(sorted, comparePoints)
	sorted = slices.Compact(sorted)
	if len(sorted) < 3 {
		return sorted
	}
	chain := func() []api.Point {
		var c []api.Point
		for _, p := range sorted {
			for len(c) > 1 && turnOf(c[len(c)-2], c[len(c)-1], p) <= 0 {
				c = c[:len(c)-1]
			}
			c = append(c, p)
		}
		return c[:len(c)-1]
	}
	below := chain()
	slices.Reverse(sorted)
	return append(below, chain()...)
}

// insideOf reports whether a point, divided by scale, is in a hull: no way along a side has it on the right, and it is
// not ahead of the first corner of the box, or behind the last one.
func insideOf(h []api.Point, p api.Point, scale int64) bool {
	for i, a := range h {
		a, b := pt(a.X*scale, a.Y*scale), h[(i+1)%len(h)]
		if turnOf(a, pt(b.X*scale, b.Y*scale), p) < 0 {
			return false
		}
	}
	x := func(a, b api.Point) int { return cmp.Compare(a.X, b.X) }
	y := func(a, b api.Point) int { return cmp.Compare(a.Y, b.Y) }
	return slices.MinFunc(h, x).X*scale <= p.X && p.X <= slices.MaxFunc(h, x).X*scale &&
		slices.MinFunc(h, y).Y*scale <= p.Y && p.Y <= slices.MaxFunc(h, y).Y*scale
}

// restsOn reports whether a piece rests on another one.
func restsOn(a, b api.Piece) bool {
	return a.Z == b.Z+b.H && a.X < b.X+b.L && b.X < a.X+a.L && a.Y < b.Y+b.W && b.Y < a.Y+a.W
}

// carriesOf reports, for all pairs, whether a piece carries another one: by as many steps as there are pieces.
func carriesOf(l api.Load) [][]bool {
	n := len(l.Pieces)
	c := make([][]bool, n)
	for i := range c {
		c[i] = make([]bool, n)
		c[i][i] = true
		for range n {
			for k, p := range l.Pieces {
				for m, q := range l.Pieces {
					c[i][k] = c[i][k] || c[i][m] && restsOn(p, q)
				}
			}
		}
	}
	return c
}

// standsOf reports whether a piece stands.
func standsOf(l api.Load, i int) bool {
	p := l.Pieces[i]
	if p.Z == 0 {
		return true
	}
	var x, y, m int64
	for k, carried := range carriesOf(l)[i] {
		if q := l.Pieces[k]; carried {
			m, x, y = m+q.Mass, x+q.Mass*(2*q.X+q.L), y+q.Mass*(2*q.Y+q.W)
		}
	}
	if m == 0 {
		m, x, y = 1, 2*p.X+p.L, 2*p.Y+p.W
	}
	var ground []api.Point
	for _, q := range l.Pieces {
		if restsOn(p, q) {
			x1, x2, y1, y2 := max(p.X, q.X), min(p.X+p.L, q.X+q.L), max(p.Y, q.Y), min(p.Y+p.W, q.Y+q.W)
			ground = append(ground, pts(x1, y1, x2, y1, x1, y2, x2, y2)...)
		}
	}
	return len(ground) > 0 && insideOf(hullOf(ground), pt(x, y), 2*m)
}

// pullOf returns the pull of a lashing.
func pullOf(l api.Load, x api.Lash) [3]int64 {
	y := l.Eyes[x.Eye]
	d := [3]int64{x.X - y.X, x.Y - y.Y, x.Z - y.Z}
	square := big.NewInt(d[0]*d[0] + d[1]*d[1] + d[2]*d[2])
	n := new(big.Int).Sqrt(square)
	if new(big.Int).Mul(n, n).Cmp(square) < 0 {
		n.Add(n, big.NewInt(1))
	}
	d[2] = -d[2]
	for i := range d {
		f := new(big.Int).Mul(big.NewInt(min(x.Strength, y.Strength)), big.NewInt(d[i]))
		d[i] = f.Quo(f, n).Int64() // Quo rounds towards 0
	}
	return d
}

// areaOf returns the points of the friction area of a force, all moved.
func areaOf(force, friction, x, y int64) []api.Point {
	r := force * friction / 1000
	s := r * 707 / 1000
	return pts(x+r, y, x+s, y+s, x, y+r, x-s, y+s, x-r, y, x-s, y-s, x, y-r, x+s, y-s)
}

// reachBySums returns the reach: part by part, all sums of two corners are looked at.
func reachBySums(l api.Load, x []api.Lash, s api.Shake) []api.Point {
	var mass int64
	for _, p := range l.Pieces {
		mass += p.Mass
	}
	h := hullOf(areaOf(mass*s.Z/1000, l.Friction, 0, 0))
	for _, lash := range x {
		p := pullOf(l, lash)
		var sums []api.Point
		for _, a := range h {
			for _, b := range append(areaOf(p[2], l.Friction, p[0], p[1]), pt(0, 0)) {
				sums = append(sums, pt(a.X+b.X, a.Y+b.Y))
			}
		}
		h = hullOf(sums)
	}
	return h
}

// needOf returns the need of a shake: the greater amount, if it is not whole.
func needOf(l api.Load, s api.Shake) api.Point {
	var mass int64
	for _, p := range l.Pieces {
		mass += p.Mass
	}
	away := func(n int64) int64 {
		q := n / 1000
		if n%1000 > 0 {
			q++
		}
		if n%1000 < 0 {
			q--
		}
		return q
	}
	return pt(away(mass*s.X), away(mass*s.Y))
}

// directionsOf returns the directions of a hull.
func directionsOf(h []api.Point) []api.Point {
	switch len(h) {
	case 1:
		return pts(1, 0, 0, 1, -1, 0, 0, -1)
	case 2:
		a, b := h[0], h[1]
		return pts(b.Y-a.Y, a.X-b.X, a.Y-b.Y, b.X-a.X, b.X-a.X, b.Y-a.Y, a.X-b.X, a.Y-b.Y)
	}
	var l []api.Point
	for i, a := range h {
		b := h[(i+1)%len(h)]
		l = append(l, pt(b.Y-a.Y, a.X-b.X))
	}
	return l
}

// provesOf reports whether a direction proves that a need is not reached; it computes without limits.
func provesOf(h []api.Point, need, n api.Point) bool {
	dot := func(p api.Point) *big.Int {
		x := new(big.Int).Mul(big.NewInt(p.X), big.NewInt(n.X))
		return x.Add(x, new(big.Int).Mul(big.NewInt(p.Y), big.NewInt(n.Y)))
	}
	for _, p := range h {
		if dot(need).Cmp(dot(p)) <= 0 {
			return false
		}
	}
	return true
}
