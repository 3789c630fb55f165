package plane_test

import (
	"math"
	"slices"
	"testing"

	"gooseneck/api"
	"gooseneck/plane"
)

const far = api.MaxPlace

// extremes are numbers at the limits of the chapter, one beyond them, and at the ends of the type.
var extremes = []int64{
	math.MinInt64, math.MinInt64 + 1, -1<<61 - 1, -1 << 61, -1<<52 - 1, -1 << 32, -1<<26 - 1, -far - 1, -far, -2049, -1,
	0, 1, 2048, far, far + 1, 2*far + 1, 1 << 32, 1 << 52, 1 << 61, 1<<61 + 1, math.MaxInt64,
}

// beyondPlace are points that are not valid: one coordinate is beyond the limit.
var beyondPlace = []api.Point{
	{X: far + 1}, {X: -far - 1}, {Y: far + 1}, {Y: -far - 1},
	{X: math.MinInt64}, {X: math.MaxInt64}, {Y: math.MinInt64}, {Y: math.MaxInt64},
}

func pt(x, y int64) api.Point { return api.Point{X: x, Y: y} }

// pts returns the points with these coordinates, X and Y in turn.
func pts(c ...int64) []api.Point {
	l := []api.Point{}
	for i := 0; i < len(c); i += 2 {
		l = append(l, pt(c[i], c[i+1]))
	}
	return l
}

// moved returns the points moved by d.
func moved(l []api.Point, d api.Point) []api.Point {
	m := []api.Point{}
	for _, p := range l {
		m = append(m, pt(p.X+d.X, p.Y+d.Y))
	}
	return m
}

// bow returns n points of a parabola: they are a hull, and no side of it is along an axis.
func bow(n int) []api.Point {
	l := []api.Point{}
	for i := range int64(n) {
		l = append(l, pt(i, i*i+i))
	}
	return l
}

// wheel returns a hull of 256 corners, of which four sides are along the axes.
func wheel() []api.Point {
	const n = 64
	at := pt(0, 0)
	l := []api.Point{}
	for quarter := range 4 {
		for i := int64(1); i <= n; i++ {
			l = append(l, at)
			x, y := i, i-n
			for range quarter {
				x, y = -y, x
			}
			at = pt(at.X+x, at.Y+y)
		}
	}
	return l
}

// dice are numbers that look like chance, and are the same in each run.
type dice struct{ state uint64 }

func (d *dice) roll(low, high int64) int64 {
	d.state += 0x9e3779b97f4a7c15
	z := d.state
	z = (z ^ z>>30) * 0xbf58476d1ce4e5b9
	z = (z ^ z>>27) * 0x94d049bb133111eb
	z ^= z >> 31
	return low + int64(z%uint64(high-low+1))
}

func (d *dice) point(most int64) api.Point { return pt(d.roll(-most, most), d.roll(-most, most)) }

func (d *dice) points(n int, most int64) []api.Point {
	l := []api.Point{}
	for range n {
		l = append(l, d.point(most))
	}
	return l
}

// hull returns a hull of from 1 to n points.
func (d *dice) hull(t *testing.T, n, most int64) []api.Point {
	t.Helper()
	h, e := plane.Hull(d.points(int(d.roll(1, n)), most))
	if e != api.OK {
		t.Fatalf("Hull: %d", e)
	}
	return h
}

// half returns a turn of a half.
func (d *dice) half(t *testing.T) api.Rot {
	t.Helper()
	r, e := plane.Half(d.roll(-2048, 2048), d.roll(1, 2048))
	if e != api.OK {
		t.Fatalf("Half: %d", e)
	}
	return r
}

func amount(n int64) int64 { return max(n, -n) }

// within reports whether two points differ by at most n in X, and in Y.
func within(a, b api.Point, n int64) bool { return amount(a.X-b.X) <= n && amount(a.Y-b.Y) <= n }

func distance(t *testing.T, a, b api.Point) int64 {
	t.Helper()
	n, e := plane.Distance(a, b)
	if e != api.OK {
		t.Fatalf("Distance of %v and %v: %d", a, b, e)
	}
	return n
}

func gap(t *testing.T, a, b []api.Point) int64 {
	t.Helper()
	n, e := plane.Gap(a, b)
	if e != api.OK {
		t.Fatalf("Gap of %v and %v: %d", a, b, e)
	}
	return n
}

func meet(t *testing.T, a, b []api.Point) bool {
	t.Helper()
	m, e := plane.Meet(a, b)
	if e != api.OK {
		t.Fatalf("Meet of %v and %v: %d", a, b, e)
	}
	return m
}

func inside(t *testing.T, h []api.Point, p api.Point) bool {
	t.Helper()
	in, e := plane.Inside(h, p)
	if e != api.OK {
		t.Fatalf("Inside of %v and %v: %d", h, p, e)
	}
	return in
}

// checkSame reports a list that is not as it should be; nil is the same as empty.
func checkSame(t *testing.T, what string, got, want []api.Point) {
	t.Helper()
	if !slices.Equal(got, want) {
		t.Errorf("%s: %v, want %v", what, got, want)
	}
}

// checkPoint reports a point with its error, if they are not as they should be.
func checkPoint(t *testing.T, what string, p api.Point, e api.Errno, want api.Point, wantErr api.Errno) {
	t.Helper()
	if p != want || e != wantErr {
		t.Errorf("%s: %v, %d, want %v, %d", what, p, e, want, wantErr)
	}
}

// checkNumber reports a number with its error, if they are not as they should be.
func checkNumber(t *testing.T, what string, n int64, e api.Errno, want int64, wantErr api.Errno) {
	t.Helper()
	if n != want || e != wantErr {
		t.Errorf("%s: %d, %d, want %d, %d", what, n, e, want, wantErr)
	}
}

// checkErr reports an error that is not the one it should be.
func checkErr(t *testing.T, what string, got, want api.Errno) {
	t.Helper()
	if got != want {
		t.Errorf("%s: error %d, want %d", what, got, want)
	}
}
