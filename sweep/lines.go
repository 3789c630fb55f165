package sweep

import (
	"iter"

	"gooseneck/api"
	"gooseneck/plane"
)

// Lines returns a proof of clearance. (P5.4)
func Lines(r api.Rig, l []api.Obstacle, way []api.Pose, margin int64) ([]api.Line, api.Errno) {
	p, e := along(r, l, way, margin)
	if e != api.OK {
		return nil, e
	}
	var lines []api.Line
	for hit, a := range p.level(0) {
		line, isApart := a.part(p.obstacles[hit.Obstacle].Hull, margin)
		if !isApart {
			return nil, api.ErrBlock
		}
		lines = append(lines, line)
	}
	return lines, api.OK
}

// CheckLines reports whether a proof of clearance is right. (P5.4)
func CheckLines(r api.Rig, l []api.Obstacle, way []api.Pose, margin int64, lines []api.Line) api.Errno {
	p, e := along(r, l, way, margin)
	if e != api.OK {
		return e
	}
	if len(lines) != p.levels() {
		return api.ErrEqual
	}
	for hit, a := range p.level(0) {
		if !a.isParted(p.obstacles[hit.Obstacle].Hull, margin, lines[0]) {
			return api.ErrSum
		}
		lines = lines[1:]
	}
	return api.OK
}

// levels returns how much is level, in all steps.
func (p *passage) levels() int {
	n := 0
	for _, one := range p.parts {
		n += len(one.level)
	}
	return n * p.steps()
}

// part returns a line that parts an area, grown by a margin, and an obstacle. If they do not meet, a side of their
// differences has (0, 0) outside, or their box has; and all these sides are those of both hulls, or of boxes.
//
// What is grown may reach out of the place, where package plane takes no hull. So nothing is grown here: a line that
// touches the area is moved as far as growing would move it.
func (a *area) part(o []api.Point, margin int64) (api.Line, bool) {
	for n := range across(a.hull(), o) {
		k := highest(a.hull(), n) + grown(n, margin)
		if k < -highest(o, opposite(n)) {
			return api.Line{X: n.X, Y: n.Y, K: k}, true
		}
	}
	return api.Line{}, false
}

// isParted reports whether a line parts an area, grown by a margin, and an obstacle. It does if it parts both as it is,
// so that its numbers are within the limits and the obstacle is behind it, and if the area stays ahead of it when it is
// moved back by as much as growing adds.
func (a *area) isParted(o []api.Point, margin int64, l api.Line) bool {
	if plane.CheckPart(a.hull(), o, l) != api.OK {
		return false
	}
	l.K -= grown(api.Point{X: l.X, Y: l.Y}, margin)
	return plane.CheckPart(a.hull(), o, l) == api.OK
}

// across yields the directions in which one hull may be behind another one.
func across(a, b []api.Point) iter.Seq[api.Point] {
	return func(yield func(api.Point) bool) {
		for _, n := range [...]api.Point{{X: 1}, {Y: 1}, {X: -1}, {Y: -1}} {
			if !yield(n) {
				return
			}
		}
		for n := range outwards(a) {
			if !yield(n) {
				return
			}
		}
		for n := range outwards(b) {
			if !yield(opposite(n)) {
				return
			}
		}
	}
}

// outwards yields the directions across the sides of a hull, away from it.
func outwards(h []api.Point) iter.Seq[api.Point] {
	return func(yield func(api.Point) bool) {
		for i, a := range h {
			b := h[(i+1)%len(h)]
			if !yield(api.Point{X: b.Y - a.Y, Y: a.X - b.X}) {
				return
			}
		}
	}
}

func opposite(p api.Point) api.Point { return api.Point{X: -p.X, Y: -p.Y} }

// highest returns how far a hull reaches in a direction.
func highest(h []api.Point, n api.Point) int64 {
	most := h[0].X*n.X + h[0].Y*n.Y
	for _, p := range h {
		most = max(most, p.X*n.X+p.Y*n.Y)
	}
	return most
}

// grown returns by how much farther a hull reaches in a direction when it is grown.
func grown(n api.Point, margin int64) int64 {
	return margin * (max(n.X, -n.X) + max(n.Y, -n.Y))
}
