package bridge_test

import (
	"math"
	"math/rand/v2"
	"slices"
	"testing"

	"gooseneck/api"
)

// extremes are numbers at the limits of the chapter, one beyond them, and at the ends of the type.
var extremes = []int64{
	math.MinInt64, math.MinInt64 + 1, -1 << 32, -1<<22 - 1, -1 << 22, -1<<18 - 1, -1000, -16, -2, -1, 0, 1, 2, 3, 4, 5, 6, 7, 15,
	64, 65, 99, 100, 101, 1000, 1001, 1600, 4000, 4096, 4097, 10000, 10001, 1 << 14, 1<<14 + 1, 1 << 17, 1<<17 + 1, 1 << 18,
	1<<18 + 1, 1000000, 1000001, 1 << 20, 1<<20 + 1, 1 << 22, 1<<22 + 1, 1 << 30, 1<<30 + 1, 1 << 32, math.MaxInt64 - 1,
	math.MaxInt64,
}

// chance returns numbers that look like chance, and are the same in each run.
func chance(seed uint64) *rand.Rand { return rand.New(rand.NewPCG(seed, 6)) }

// from returns a number from low to high.
func from(r *rand.Rand, low, high int64) int64 { return low + r.Int64N(high-low+1) }

// example is the bridge of the chapter's examples.
func example() api.Bridge {
	return api.Bridge{
		Spans: []int64{20000, 10000}, Moment: []int64{200000, 100000}, Shear: []int64{60000, 50000},
		Dynamic: 200, Lanes: 2, Traffic: 500,
	}
}

// two is the train of the chapter's examples.
func two() []api.Force { return forces(0, 12000, 2000, 12000) }

// forces returns the axles of which these are the places and the loads.
func forces(l ...int64) []api.Force {
	var t []api.Force
	for pair := range slices.Chunk(l, 2) {
		t = append(t, api.Force{X: pair[0], P: pair[1]})
	}
	return t
}

// repeated returns a train of n axles, each a step behind the one before it.
func repeated(n int, step, p int64) []api.Force {
	var t []api.Force
	for i := range int64(n) {
		t = append(t, api.Force{X: i * step, P: p})
	}
	return t
}

// beams returns a bridge of some spans that bears all that there can be.
func beams(spans ...int64) api.Bridge {
	most := slices.Repeat([]int64{api.MaxBear}, len(spans))
	return api.Bridge{Spans: spans, Moment: most, Shear: slices.Clone(most), Lanes: 1}
}

// anyBridge returns a valid bridge of up to n spans, of a length of up to most.
func anyBridge(r *rand.Rand, n, most int64) api.Bridge {
	b := api.Bridge{Dynamic: from(r, 0, 1000), Lanes: 1 + r.IntN(4), Traffic: from(r, 0, 1<<from(r, 0, 12))}
	for range from(r, 1, n) {
		b.Spans = append(b.Spans, from(r, 100, most))
		b.Moment = append(b.Moment, from(r, 1, 1<<from(r, 0, 30)))
		b.Shear = append(b.Shear, from(r, 1, 1<<from(r, 0, 30)))
	}
	return b
}

// anyTrain returns a valid train of up to n axles, of a length of up to most, with loads of up to load.
func anyTrain(r *rand.Rand, n, most, load int64) []api.Force {
	var l []int64
	for range from(r, 0, n-1) {
		l = append(l, from(r, 0, most))
	}
	slices.Sort(l)
	t := []api.Force{{P: from(r, 0, load)}}
	for _, x := range l {
		t = append(t, api.Force{X: x, P: from(r, 0, load)})
	}
	return t
}

// heavier returns a train with some loads that are greater, and none that is less.
func heavier(r *rand.Rand, t []api.Force, load int64) []api.Force {
	t = slices.Clone(t)
	for i := range t {
		if r.IntN(2) == 0 {
			t[i].P = from(r, t[i].P, max(t[i].P, load))
		}
	}
	return t
}

// must returns the result of a call that has no error.
func must[T any](t *testing.T, what string) func(T, api.Errno) T {
	return func(got T, e api.Errno) T {
		t.Helper()
		if e != api.OK {
			t.Fatalf("%s: error %d", what, e)
		}
		return got
	}
}

// check reports a result with its error, if they are not as they should be.
func check[T comparable](t *testing.T, what string, got T, e api.Errno, want T, wantErr api.Errno) {
	t.Helper()
	if got != want || e != wantErr {
		t.Errorf("%s: %v, %d, want %v, %d", what, got, e, want, wantErr)
	}
}

// checkList reports a list with its error, if they are not as they should be; nil is the same as empty.
func checkList[T comparable](t *testing.T, what string, got []T, e api.Errno, want []T, wantErr api.Errno) {
	t.Helper()
	if !slices.Equal(got, want) || e != wantErr {
		t.Errorf("%s: %v, %d, want %v, %d", what, got, e, want, wantErr)
	}
}

// checkErr reports an error that is not the one it should be.
func checkErr(t *testing.T, what string, got, want api.Errno) {
	t.Helper()
	if got != want {
		t.Errorf("%s: error %d, want %d", what, got, want)
	}
}
