package plane_test

import (
	"slices"
	"testing"

	"gooseneck/api"
	"gooseneck/plane"
)

// answer is what a call returns: numbers, and points.
type answer struct {
	numbers []int64
	points  []api.Point
	err     api.Errno
}

func (a answer) same(b answer) bool {
	return slices.Equal(a.numbers, b.numbers) && slices.Equal(a.points, b.points) && a.err == b.err
}

// zero reports whether all results but the error are zero values.
func (a answer) zero() bool {
	for _, n := range a.numbers {
		if n != 0 {
			return false
		}
	}
	for _, p := range a.points {
		if p != (api.Point{}) {
			return false
		}
	}
	return true
}

// hand is arguments for any function of the package.
type hand struct {
	lists   [2][]api.Point
	points  [3]api.Point
	numbers [3]int64
	rots    [2]api.Rot
}

func (h hand) clone() hand {
	for i, l := range h.lists {
		h.lists[i] = slices.Clone(l)
	}
	return h
}

// number is an answer of numbers.
func number(e api.Errno, n ...int64) answer { return answer{numbers: n, err: e} }

// place is an answer of points.
func place(e api.Errno, p ...api.Point) answer { return answer{points: p, err: e} }

func truth(ok bool) int64 {
	if ok {
		return 1
	}
	return 0
}

// calls are all functions of the package.
func calls() map[string]func(h hand) answer {
	return map[string]func(h hand) answer{
		"Floor":   func(h hand) answer { n, e := plane.Floor(h.numbers[0], h.numbers[1]); return number(e, n) },
		"Nearest": func(h hand) answer { n, e := plane.Nearest(h.numbers[0], h.numbers[1]); return number(e, n) },
		"Root":    func(h hand) answer { n, e := plane.Root(h.numbers[0]); return number(e, n) },
		"Check":   func(h hand) answer { return number(plane.Check(h.points[0])) },
		"Turn": func(h hand) answer {
			n, e := plane.Turn(h.points[0], h.points[1], h.points[2])
			return number(e, int64(n))
		},
		"Hull":      func(h hand) answer { l, e := plane.Hull(h.lists[0]); return place(e, l...) },
		"IsHull":    func(h hand) answer { return number(api.OK, truth(plane.IsHull(h.lists[0]))) },
		"Inside":    func(h hand) answer { in, e := plane.Inside(h.lists[0], h.points[0]); return number(e, truth(in)) },
		"Meet":      func(h hand) answer { m, e := plane.Meet(h.lists[0], h.lists[1]); return number(e, truth(m)) },
		"Grow":      func(h hand) answer { l, e := plane.Grow(h.lists[0], h.numbers[0]); return place(e, l...) },
		"Gap":       func(h hand) answer { n, e := plane.Gap(h.lists[0], h.lists[1]); return number(e, n) },
		"Area":      func(h hand) answer { n, e := plane.Area(h.lists[0]); return number(e, n) },
		"Part":      func(h hand) answer { l, e := plane.Part(h.lists[0], h.lists[1]); return number(e, l.X, l.Y, l.K) },
		"CheckPart": callCheckPart,
		"Distance":  func(h hand) answer { n, e := plane.Distance(h.points[0], h.points[1]); return number(e, n) },
		"Length":    func(h hand) answer { n, e := plane.Length(h.lists[0]); return number(e, n) },
		"Along":     callAlong,
		"CheckRot":  func(h hand) answer { return number(plane.CheckRot(h.rots[0])) },
		"Half":      func(h hand) answer { r, e := plane.Half(h.numbers[0], h.numbers[1]); return number(e, r.C, r.S, r.N) },
		"Both":      func(h hand) answer { r, e := plane.Both(h.rots[0], h.rots[1]); return number(e, r.C, r.S, r.N) },
		"Rotate":    func(h hand) answer { p, e := plane.Rotate(h.points[0], h.points[1], h.rots[0]); return place(e, p) },
		"Place":     callPlace,
		"Pull":      func(h hand) answer { p, e := plane.Pull(h.points[0], h.points[1], h.numbers[0]); return place(e, p) },
	}
}

func callCheckPart(h hand) answer {
	l := api.Line{X: h.numbers[0], Y: h.numbers[1], K: h.numbers[2]}
	return number(plane.CheckPart(h.lists[0], h.lists[1], l))
}

func callAlong(h hand) answer {
	p, i, e := plane.Along(h.lists[0], h.numbers[0])
	return answer{[]int64{int64(i)}, []api.Point{p}, e}
}

func callPlace(h hand) answer {
	p, e := plane.Place(h.points[0], h.points[1], h.numbers[0], h.numbers[1])
	return place(e, p)
}

// deal returns arguments of which many are at a limit, or beyond it.
func deal(t *testing.T, d *dice) hand {
	number := func() int64 {
		if d.roll(0, 2) == 0 {
			return d.roll(-9, 9)
		}
		return extremes[d.roll(0, int64(len(extremes))-1)]
	}
	point := func() api.Point {
		if d.roll(0, 2) > 0 {
			return d.point(far)
		}
		return pt(number(), number())
	}
	list := func() []api.Point {
		lists := [][]api.Point{nil, {}, {point()}, {point(), point()}, d.hull(t, 9, far), d.hull(t, 9, 4), bow(256), wheel(), bow(257),
			d.points(5, far), {point(), point(), point(), point()}, slices.Repeat([]api.Point{point()}, 256), ends()}
		return lists[d.roll(0, int64(len(lists))-1)]
	}
	turn := func() api.Rot {
		if d.roll(0, 1) == 0 {
			return d.half(t)
		}
		return rot(number(), number(), number())
	}
	return hand{
		[2][]api.Point{list(), list()}, [3]api.Point{point(), point(), point()},
		[3]int64{number(), number(), number()}, [2]api.Rot{turn(), turn()},
	}
}

// P1, R2, R5, R6, R10: each function ends and does not panic for all arguments; it changes none of them; it returns zero
// values with an error, and the same if it is called again.
func TestAnyArguments(t *testing.T) {
	d := &dice{40}
	for range 1500 {
		h := deal(t, d)
		for what, call := range calls() {
			before := h.clone()
			a := call(h)
			for i, l := range h.lists {
				if !slices.Equal(l, before.lists[i]) {
					t.Fatalf("%s has changed an argument", what)
				}
			}
			if a.err != api.OK && !a.zero() {
				t.Errorf("%s of %v: %v", what, before, a)
			}
			if again := call(before); !again.same(a) {
				t.Errorf("%s of %v: %v, and then %v", what, before, a, again)
			}
		}
	}
}

// R3: a nil list and an empty one are the same.
func TestNilIsEmpty(t *testing.T) {
	for what, call := range calls() {
		for first := range 2 {
			var a, b hand
			for _, h := range []*hand{&a, &b} {
				h.lists[1-first] = pts(0, 0, 4, 0, 2, 2)
			}
			b.lists[first] = []api.Point{}
			if x, y := call(a), call(b); !x.same(y) {
				t.Errorf("%s: %v with nil, %v with an empty list", what, x, y)
			}
		}
	}
}

// R5: a result shares no memory with an argument, or with another result.
func TestResultsAreNewMemory(t *testing.T) {
	for _, l := range [][]api.Point{pts(3, 4), pts(1, 1, 5, 3), pts(0, 0, 4, 0, 2, 2), bow(256)} {
		for what, call := range map[string]func() []api.Point{
			"Hull":      func() []api.Point { h, _ := plane.Hull(l); return h },
			"Grow by 0": func() []api.Point { h, _ := plane.Grow(l, 0); return h },
		} {
			first, second := call(), call()
			kept := slices.Clone(l)
			// What lies behind the end counts, too: an append would write there.
			for i := range first[:cap(first)] {
				first[:cap(first)][i] = pt(-1, -1)
			}
			checkSame(t, what+": the argument", l, kept)
			checkSame(t, what+": the other result", second, kept)
		}
	}
}
