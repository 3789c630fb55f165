package sweep

import (
	"slices"

	"gooseneck/api"
	"gooseneck/plane"
)

// box is the least and the greatest coordinates of some points.
type box struct {
	low  api.Point
	high api.Point
}

// obstacle is an obstacle with its box.
type obstacle struct {
	api.Obstacle
	box
}

// area is what a section sweeps in a step: the hull of its corners in both poses. Most areas are so far from all
// obstacles that their boxes tell it, so the hull is only made where it is needed.
type area struct {
	box
	before []api.Point
	behind []api.Point
	made   []api.Point
}

func newArea(before, behind []api.Point) *area {
	a, b := boxOf(before), boxOf(behind)
	both := boxOf([]api.Point{a.low, a.high, b.low, b.high})
	return &area{box: both, before: before, behind: behind}
}

func boxOf(l []api.Point) box {
	b := box{low: l[0], high: l[0]}
	for _, p := range l {
		b.low = api.Point{X: min(b.low.X, p.X), Y: min(b.low.Y, p.Y)}
		b.high = api.Point{X: max(b.high.X, p.X), Y: max(b.high.Y, p.Y)}
	}
	return b
}

// apart returns the gap of two boxes, which is never greater than that of what they are around.
func (b box) apart(c box) int64 {
	return max(0, b.low.X-c.high.X, c.low.X-b.high.X, b.low.Y-c.high.Y, c.low.Y-b.high.Y)
}

func (a *area) hull() []api.Point {
	if a.made == nil {
		a.made, _ = plane.Hull(slices.Concat(a.before, a.behind)) // they are valid, and not too many
	}
	return a.made
}

// gap returns the gap of an area and an obstacle, or what is known, if that is less.
func (a *area) gap(o obstacle, known int64) int64 {
	if a.apart(o.box) >= known {
		return known
	}
	n, _ := plane.Gap(a.hull(), o.Hull) // both are hulls
	return min(n, known)
}
