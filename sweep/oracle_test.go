package sweep_test

// The oracles compute results once more, from the words of the chapter, with what the layers below promise, without any
// short cut, and guide by guide.

import (
	"math/big"
	"testing"

	"gooseneck/api"
	"gooseneck/chain"
	"gooseneck/plane"
)

func cornersOf(r api.Rig, p api.Pose, i int) ([]api.Point, api.Errno) {
	var l []api.Point
	s := r.Sections[i]
	for _, c := range s.Hull {
		at, e := placeOf(r, p, s.On, c)
		if e != api.OK {
			return nil, e
		}
		l = append(l, at)
	}
	return l, api.OK
}

func placeOf(r api.Rig, p api.Pose, on int, c api.Point) (api.Point, api.Errno) {
	if on >= 0 {
		return chain.Place(r.Vehicle, p, on, c.X, c.Y)
	}
	front, rear, e := chain.LoadLine(r.Vehicle, p)
	if e != api.OK {
		return api.Point{}, e
	}
	turned, e := plane.Rotate(c, pt(0, 0), r.Turn)
	if e != api.OK {
		return api.Point{}, e
	}
	return plane.Place(rear, front, turned.X+r.Shift.X, turned.Y+r.Shift.Y)
}

// errorOf returns the first error of corners.
func errorOf(r api.Rig, way ...api.Pose) api.Errno {
	for _, p := range way {
		for i := range r.Sections {
			if _, e := cornersOf(r, p, i); e != api.OK {
				return e
			}
		}
	}
	return api.OK
}

func sweptOf(t *testing.T, r api.Rig, a, b api.Pose, i int) []api.Point {
	t.Helper()
	l := must[[]api.Point](t, "corners before")(cornersOf(r, a, i))
	l = append(l, must[[]api.Point](t, "corners behind")(cornersOf(r, b, i))...)
	return must[[]api.Point](t, "Hull")(plane.Hull(l))
}

func gapOf(t *testing.T, a, b []api.Point) int64 {
	t.Helper()
	return must[int64](t, "Gap")(plane.Gap(a, b))
}

func areLevel(r api.Rig, i int, o api.Obstacle) bool {
	low, high := r.Sections[i].Low, r.Sections[i].High
	if r.Sections[i].On == -1 {
		low, high = low+r.Lift, high+r.Lift
	}
	return !(high < o.Low) && !(o.High < low)
}

// stepsOf returns the poses before and behind each step of a passage.
func stepsOf(way []api.Pose) [][2]api.Pose {
	if len(way) == 1 {
		return [][2]api.Pose{{way[0], way[0]}}
	}
	var l [][2]api.Pose
	for k := range len(way) - 1 {
		l = append(l, [2]api.Pose{way[k], way[k+1]})
	}
	return l
}

// gapsOf returns all that is level, and its gaps.
func gapsOf(t *testing.T, r api.Rig, l []api.Obstacle, way []api.Pose) ([]api.Hit, []int64) {
	t.Helper()
	var hits []api.Hit
	var gaps []int64
	for step, s := range stepsOf(way) {
		for i := range r.Sections {
			for k, o := range l {
				if areLevel(r, i, o) {
					hits = append(hits, met(step, i, k))
					gaps = append(gaps, gapOf(t, sweptOf(t, r, s[0], s[1], i), o.Hull))
				}
			}
		}
	}
	return hits, gaps
}

func clearanceOf(t *testing.T, r api.Rig, l []api.Obstacle, way []api.Pose) int64 {
	t.Helper()
	least := int64(1 << 26)
	_, gaps := gapsOf(t, r, l, way)
	for _, n := range gaps {
		least = min(least, n)
	}
	return least
}

func firstOf(t *testing.T, r api.Rig, l []api.Obstacle, way []api.Pose, margin int64) (api.Hit, api.Errno) {
	t.Helper()
	hits, gaps := gapsOf(t, r, l, way)
	for i, n := range gaps {
		if n <= margin {
			return hits[i], api.OK
		}
	}
	return api.Hit{}, api.ErrBlock
}

// isPartedOf reports whether a line is one of a proof. It takes the corners of what is grown one by one.
func isPartedOf(t *testing.T, swept, o []api.Point, margin int64, l api.Line) bool {
	t.Helper()
	for _, n := range [][2]int64{{l.X, 1 << 26}, {l.Y, 1 << 26}, {l.K, 1 << 52}} {
		if n[0] < -n[1] || n[0] > n[1] {
			return false
		}
	}
	isAhead := func(x, y int64) bool {
		n := new(big.Int).Mul(big.NewInt(l.X), big.NewInt(x))
		n.Add(n, new(big.Int).Mul(big.NewInt(l.Y), big.NewInt(y)))
		return n.Cmp(big.NewInt(l.K)) <= 0
	}
	for _, p := range swept {
		for _, d := range box(-margin, -margin, margin, margin) {
			if !isAhead(p.X+d.X, p.Y+d.Y) {
				return false
			}
		}
	}
	for _, p := range o {
		if isAhead(p.X, p.Y) {
			return false
		}
	}
	return true
}

// areLinesOf reports whether a proof is right.
func areLinesOf(t *testing.T, r api.Rig, l []api.Obstacle, way []api.Pose, margin int64, lines []api.Line) bool {
	t.Helper()
	hits, _ := gapsOf(t, r, l, way)
	if len(hits) != len(lines) {
		return false
	}
	steps := stepsOf(way)
	for i, h := range hits {
		s := steps[h.Step]
		if !isPartedOf(t, sweptOf(t, r, s[0], s[1], h.Section), l[h.Obstacle].Hull, margin, lines[i]) {
			return false
		}
	}
	return true
}

// driven is what comes of a beginning: its poses, up to the step that cannot be driven, and its hit.
type driven struct {
	way       []api.Pose
	hit       api.Hit
	isBlocked bool
}

// block keeps the first hit of all.
func (d *driven) block(h api.Hit) {
	if !d.isBlocked {
		d.hit, d.isBlocked = h, true
	}
}

// drivenOf drives a beginning.
func drivenOf(t *testing.T, f api.Family, choices []int) driven {
	t.Helper()
	d := driven{way: []api.Pose{f.Start}}
	for row, i := range choices {
		if !drivePiece(t, f, &d, f.Rows[row][i], choices[:row+1]) {
			break
		}
	}
	return d
}

// drivePiece reports whether a piece can be driven up to its end.
func drivePiece(t *testing.T, f api.Family, d *driven, c api.Choice, done []int) bool {
	t.Helper()
	v := f.Rig.Vehicle
	a, e := chain.Joint(v, d.way[len(d.way)-1], 0)
	if c.Back {
		a, e = chain.Joint(v, d.way[len(d.way)-1], len(v.Units))
	}
	if e != api.OK {
		d.block(stuck(0, done...))
		return false
	}
	for step, at := range pointsOf(t, a, c.To, f.Step) {
		before := d.way[len(d.way)-1]
		next, ok := stepOf(f.Rig, before, c, at)
		if !ok || step == 200 {
			d.block(stuck(step, done...))
			return false
		}
		d.way = append(d.way, next)
		h, e := firstOf(t, f.Rig, f.Obstacles, []api.Pose{before, next}, f.Margin)
		if e == api.OK {
			d.block(met(step, h.Section, h.Obstacle, done...))
		}
	}
	return true
}

// pointsOf returns the points of the steps of a piece, at most 201 of them.
func pointsOf(t *testing.T, a, end api.Point, step int64) []api.Point {
	t.Helper()
	n := must[int64](t, "Distance")(plane.Distance(a, end))
	var l []api.Point
	for s := step; s < n && len(l) < 200; s += step {
		at, _, e := plane.Along([]api.Point{a, end}, s)
		checkErr(t, "Along", e, api.OK)
		l = append(l, at)
	}
	return append(l, end)
}

// stepOf returns the pose behind a step, and whether it can be driven.
func stepOf(r api.Rig, before api.Pose, c api.Choice, at api.Point) (api.Pose, bool) {
	steer := make([]int, len(r.Vehicle.Units))
	copy(steer, c.Steer)
	next, e := chain.Step(r.Vehicle, before, at, steer)
	if c.Back {
		next, e = chain.Back(r.Vehicle, before, at, steer)
	}
	if e != api.OK {
		return api.Pose{}, false
	}
	isFolded, e := chain.Folded(r.Vehicle, next)
	return next, e == api.OK && !isFolded && errorOf(r, before, next) == api.OK
}

// guidesOf returns all guides of a family.
func guidesOf(f api.Family) [][]int {
	l := [][]int{nil}
	for _, row := range f.Rows {
		var longer [][]int
		for _, g := range l {
			for i := range row {
				longer = append(longer, append(append([]int{}, g...), i))
			}
		}
		l = longer
	}
	return l
}

// judged is what comes of all guides of a family.
type judged struct {
	passable  [][]int
	best      []int
	clearance int64
	hits      []api.Hit
}

func judgedOf(t *testing.T, f api.Family) judged {
	t.Helper()
	var j judged
	for _, g := range guidesOf(f) {
		d := drivenOf(t, f, g)
		if d.isBlocked {
			if n := len(j.hits); n == 0 || shown(j.hits[n-1]) != shown(d.hit) {
				j.hits = append(j.hits, d.hit)
			}
			continue
		}
		j.passable = append(j.passable, g)
		if n := clearanceOf(t, f.Rig, f.Obstacles, d.way); j.best == nil || n > j.clearance {
			j.best, j.clearance = g, n
		}
	}
	return j
}
