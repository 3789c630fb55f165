package load_test

import (
	"math"
	"math/rand/v2"
	"slices"
	"testing"

	"gooseneck/api"
	"gooseneck/load"
)

const side = api.MaxSide

// extremes are numbers at the limits of the chapter, one beyond them, and at the ends of the type.
var extremes = []int64{
	math.MinInt64, math.MinInt64 + 1, -1 << 32, -1<<30 - 1, -1 << 30, -2*side - 1, -2 * side, -side - 1, -side, -2001, -2000, -1,
	0, 1, 1000, 1001, 2000, 2001, side, side + 1, 2 * side, 2*side + 1, 1 << 22, 1<<22 + 1, 1 << 24, 1<<24 + 1, 1 << 30, 1<<30 + 1,
	1 << 32, math.MaxInt64 - 1, math.MaxInt64,
}

// chance returns numbers that look like chance, and are the same in each run.
func chance(seed uint64) *rand.Rand { return rand.New(rand.NewPCG(seed, 2)) }

// from returns a number from low to high.
func from(r *rand.Rand, low, high int64) int64 { return low + r.Int64N(high-low+1) }

func pt(x, y int64) api.Point { return api.Point{X: x, Y: y} }

// pts returns the points with these coordinates, X and Y in turn.
func pts(c ...int64) []api.Point {
	var l []api.Point
	for i := 0; i < len(c); i += 2 {
		l = append(l, pt(c[i], c[i+1]))
	}
	return l
}

// block returns a piece.
func block(x, y, z, l, w, h, mass int64) api.Piece {
	return api.Piece{X: x, Y: y, Z: z, L: l, W: w, H: h, Mass: mass}
}

// eye returns an eye.
func eye(x, y, z, strength int64) api.Eye { return api.Eye{X: x, Y: y, Z: z, Strength: strength} }

// of returns a load of pieces.
func of(pieces ...api.Piece) api.Load { return api.Load{Name: "a", Friction: 500, Pieces: pieces} }

// with returns a load with eyes.
func with(l api.Load, eyes ...api.Eye) api.Load {
	l.Eyes = eyes
	return l
}

// rubbing returns a load with a friction.
func rubbing(l api.Load, friction int64) api.Load {
	l.Friction = friction
	return l
}

// example is the load of the chapter's examples.
func example() api.Load {
	return api.Load{
		Name: "box", Friction: 300,
		Pieces: []api.Piece{block(0, 0, 0, 2000, 1000, 1000, 4000), block(0, 0, 1000, 1000, 1000, 500, 1000)},
		Eyes:   []api.Eye{eye(0, 0, 500, 10000), eye(2000, 1000, 500, 10000)},
	}
}

// clone returns a load that shares no memory with another one.
func clone(l api.Load) api.Load {
	l.Pieces, l.Eyes = slices.Clone(l.Pieces), slices.Clone(l.Eyes)
	return l
}

func same(a, b api.Load) bool {
	return a.Name == b.Name && a.Friction == b.Friction && slices.Equal(a.Pieces, b.Pieces) && slices.Equal(a.Eyes, b.Eyes)
}

// anyLoad returns a valid load with from 1 to n pieces, and as many eyes, with coordinates of up to most.
func anyLoad(r *rand.Rand, n, most int64) api.Load {
	l := api.Load{Name: "any", Friction: from(r, 0, api.MaxFriction)}
	for range from(r, 1, n) {
		x, y, z := from(r, -most, most-1), from(r, -most, most-1), from(r, 0, most-1)
		l.Pieces = append(l.Pieces, block(x, y, z, from(r, 1, most-x), from(r, 1, most-y), from(r, 1, most-z), from(r, 0, api.MaxMass/n)))
		l.Eyes = append(l.Eyes, eye(from(r, -most, most), from(r, -most, most), from(r, 0, most), from(r, 0, api.MaxStrength)))
	}
	l.Pieces[0].Mass += 1 - min(1, l.Pieces[0].Mass)
	return l
}

// anyLash returns a valid lashing of a load with eyes.
func anyLash(r *rand.Rand, l api.Load, most int64) api.Lash {
	for {
		i := int(from(r, 0, int64(len(l.Eyes)-1)))
		y := l.Eyes[i]
		x := api.Lash{Eye: i, X: from(r, -most, most), Y: from(r, -most, most), Z: from(r, -most, y.Z), Strength: from(r, 0, api.MaxStrength)}
		if x.X != y.X || x.Y != y.Y || x.Z != y.Z {
			return x
		}
	}
}

func anyLashes(r *rand.Rand, l api.Load, n, most int64) []api.Lash {
	var x []api.Lash
	for range n {
		x = append(x, anyLash(r, l, most))
	}
	return x
}

func anyShake(r *rand.Rand) api.Shake {
	return api.Shake{X: from(r, -api.MaxShake, api.MaxShake), Y: from(r, -api.MaxShake, api.MaxShake), Z: from(r, 0, api.MaxShake)}
}

// light returns a load of few kg with lashings of little strength: its reach is small enough to try all directions.
func light(r *rand.Rand, lashes int64) (api.Load, []api.Lash) {
	l := of(block(0, 0, 0, 10, 10, 10, from(r, 1, 12)))
	l.Friction = from(r, 0, 10) * 100
	l.Eyes = []api.Eye{eye(0, 0, 4, from(r, 0, 9)), eye(10, 10, 8, from(r, 0, 9)), eye(0, 10, 0, from(r, 0, 9))}
	x := anyLashes(r, l, lashes, 12)
	for i := range x {
		x[i].Strength %= 10
	}
	return l, x
}

// must returns the result of a call that has no error.
func must[T any](t *testing.T, what string) func(T, api.Errno) T {
	return func(got T, e api.Errno) T {
		t.Helper()
		if e != api.OK {
			t.Fatalf("%s: error %d", what, e)
		}
		return got
	}
}

func reachOf(t *testing.T, l api.Load, x []api.Lash, s api.Shake) []api.Point {
	t.Helper()
	return must[[]api.Point](t, "Reach")(load.Reach(l, x, s))
}

// check reports a result with its error, if they are not as they should be.
func check[T comparable](t *testing.T, what string, got T, e api.Errno, want T, wantErr api.Errno) {
	t.Helper()
	if got != want || e != wantErr {
		t.Errorf("%s: %v, %d, want %v, %d", what, got, e, want, wantErr)
	}
}

// checkList reports a list with its error, if they are not as they should be; nil is the same as empty.
func checkList[T comparable](t *testing.T, what string, got []T, e api.Errno, want []T, wantErr api.Errno) {
	t.Helper()
	if !slices.Equal(got, want) || e != wantErr {
		t.Errorf("%s: %v, %d, want %v, %d", what, got, e, want, wantErr)
	}
}

// checkLoad reports a load with its error, if they are not as they should be.
func checkLoad(t *testing.T, what string, got api.Load, e api.Errno, want api.Load, wantErr api.Errno) {
	t.Helper()
	if !same(got, want) || e != wantErr {
		t.Errorf("%s: %v, %d, want %v, %d", what, got, e, want, wantErr)
	}
}

// checkErr reports an error that is not the one it should be.
func checkErr(t *testing.T, what string, got, want api.Errno) {
	t.Helper()
	if got != want {
		t.Errorf("%s: error %d, want %d", what, got, want)
	}
}
