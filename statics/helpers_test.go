package statics_test

import (
	"math"
	"math/rand/v2"
	"slices"
	"testing"

	"gooseneck/api"
	"gooseneck/statics"
)

const side = api.MaxSide

// extremes are numbers at the limits of the chapter, one beyond them, and at the ends of the type.
var extremes = []int64{
	math.MinInt64, math.MinInt64 + 1, -1 << 32, -1<<24 - 1, -1 << 24, -1<<20 - 1, -1 << 20, -2*side - 1, -2 * side, -side - 1, -side,
	-16385, -16384, -1001, -1000, -11, -10, -1, 0, 1, 2, 3, 10, 11, 900, 1000, 1001, 4096, 4097, 16384, 16385, side, side + 1, 196608, 196609,
	2 * side, 2*side + 1, 1 << 20, 1<<20 + 1, 1 << 24, 1<<24 + 1, 1 << 32, math.MaxInt64 - 1, math.MaxInt64,
}

// chance returns numbers that look like chance, and are the same in each run.
func chance(seed uint64) *rand.Rand { return rand.New(rand.NewPCG(seed, 4)) }

// from returns a number from low to high.
func from(r *rand.Rand, low, high int64) int64 { return low + r.Int64N(high-low+1) }

func pt(x, y int64) api.Point { return api.Point{X: x, Y: y} }

func slope(x, y int64) api.Slope { return api.Slope{X: x, Y: y} }

// at returns a support like those of the chapter's examples.
func at(x, y int64, group int) api.Support {
	return api.Support{X: x, Y: y, Group: group, Limit: 10000, Least: 100, Most: 900}
}

// example is the platform of the chapter's examples.
func example() []api.Support {
	return []api.Support{at(0, 0, 0), at(4000, 2000, 1), at(4000, -2000, 2), at(0, 1000, 0)}
}

// corner is a platform of three supports: its parts at (x, y) are 1000 - x - y, x and y times 1000, of 1000000.
func corner() []api.Support {
	return []api.Support{at(0, 0, 0), at(1000, 0, 1), at(0, 1000, 2)}
}

// limited returns a platform of which all axles have a limit.
func limited(p []api.Support, limit int64) []api.Support {
	p = slices.Clone(p)
	for i := range p {
		p[i].Limit = limit
	}
	return p
}

// stroked returns a platform whose cylinders may have any length.
func stroked(p []api.Support) []api.Support {
	p = slices.Clone(p)
	for i := range p {
		p[i].Least, p[i].Most = 0, api.MaxStroke
	}
	return p
}

// moved returns a platform, moved.
func moved(p []api.Support, dx, dy int64) []api.Support {
	p = slices.Clone(p)
	for i := range p {
		p[i].X += dx
		p[i].Y += dy
	}
	return p
}

// anyPlatform returns a valid platform of from 3 to n supports, with coordinates of up to most.
func anyPlatform(t *testing.T, r *rand.Rand, n, most int64) []api.Support {
	t.Helper()
	for range 1000 {
		var p []api.Support
		for range from(r, 3, n) {
			least := from(r, 0, api.MaxStroke)
			p = append(p, api.Support{
				X: from(r, -most, most), Y: from(r, -most, most), Group: r.IntN(3),
				Limit: from(r, 1, api.MaxLoad), Least: least, Most: from(r, least, api.MaxStroke),
			})
		}
		if statics.Check(p) == api.OK {
			return p
		}
	}
	t.Fatal("no platform is found")
	return nil
}

// wide returns a platform that is as large, and whose whole is as great, as can be.
func wide() []api.Support {
	var p []api.Support
	for i := range api.MaxSupports {
		s := []api.Support{at(-side, -side, 0), at(side, -side, 1), at(-side, side, 2)}[i%3]
		s.Limit, s.Least, s.Most = api.MaxLoad, 0, api.MaxStroke
		p = append(p, s)
	}
	return p
}

// amid returns a point that is mostly among the middles of the groups of a platform: a weighted mean of them.
func amid(r *rand.Rand, p []api.Support) api.Point {
	var x, y, all float64
	for all < 0.5 {
		x, y, all = 0, 0, 0
		for _, g := range sumsOf(p) {
			w := 1.1*r.Float64() - 0.1 // below 0 for points that are not among them
			x, y, all = x+w*float64(g[1])/float64(g[0]), y+w*float64(g[2])/float64(g[0]), all+w
		}
	}
	return pt(int64(math.Floor(x/all+.5)), int64(math.Floor(y/all+.5)))
}

// heights returns a valid ground of n supports with heights of up to most.
func heights(r *rand.Rand, n int, most int64) []int64 {
	var l []int64
	for range n {
		l = append(l, from(r, -most, most))
	}
	return l
}

// fillings returns a filling of each group, of up to most.
func fillings(r *rand.Rand, most int64) [3]int64 {
	return [3]int64{from(r, 0, most), from(r, 0, most), from(r, 0, most)}
}

// must returns the result of a call that has no error.
func must[T any](t *testing.T, what string) func(T, api.Errno) T {
	return func(got T, e api.Errno) T {
		t.Helper()
		if e != api.OK {
			t.Fatalf("%s: error %d", what, e)
		}
		return got
	}
}

// check reports a result with its error, if they are not as they should be.
func check[T comparable](t *testing.T, what string, got T, e api.Errno, want T, wantErr api.Errno) {
	t.Helper()
	if got != want || e != wantErr {
		t.Errorf("%s: %v, %d, want %v, %d", what, got, e, want, wantErr)
	}
}

// checkList reports a list with its error, if they are not as they should be; nil is the same as empty.
func checkList[T comparable](t *testing.T, what string, got []T, e api.Errno, want []T, wantErr api.Errno) {
	t.Helper()
	if !slices.Equal(got, want) || e != wantErr {
		t.Errorf("%s: %v, %d, want %v, %d", what, got, e, want, wantErr)
	}
}

// checkDivision reports a division with its error, if they are not as they should be.
func checkDivision(t *testing.T, what string, got api.Regroup, e api.Errno, want api.Regroup, wantErr api.Errno) {
	t.Helper()
	if !slices.Equal(got.Groups, want.Groups) || got.Load != want.Load || e != wantErr {
		t.Errorf("%s: %v, %d, want %v, %d", what, got, e, want, wantErr)
	}
}

// checkErr reports an error that is not the one it should be.
func checkErr(t *testing.T, what string, got, want api.Errno) {
	t.Helper()
	if got != want {
		t.Errorf("%s: error %d, want %d", what, got, want)
	}
}
