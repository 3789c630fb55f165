package sweep

import (
	"iter"

	"gooseneck/api"
)

// passage is a rig in poses, one after another, among obstacles.
type passage struct {
	vehicle   api.Vehicle
	parts     []part
	obstacles []obstacle
	spots     []spot
}

// part is what of a section does not depend on the pose.
type part struct {
	on      int
	corners []api.Point // in places of its body
	level   []int       // the obstacles that are level with it
}

// spot is a pose with the corners of the sections in it, or with the first error of them.
type spot struct {
	api.Pose
	corners [][]api.Point
	err     api.Errno
}

// Clearance returns the clearance of a passage. (P5.3)
func Clearance(r api.Rig, l []api.Obstacle, way []api.Pose) (int64, api.Errno) {
	p, e := along(r, l, way, 0)
	if e != api.OK {
		return 0, e
	}
	least, _ := p.nearest(0, api.MaxClear, 0)
	return least, api.OK
}

// First returns the first hit of a passage. (P5.3)
func First(r api.Rig, l []api.Obstacle, way []api.Pose, margin int64) (api.Hit, api.Errno) {
	p, e := along(r, l, way, margin)
	if e != api.OK {
		return api.Hit{}, e
	}
	least, hit := p.nearest(0, margin+1, margin)
	if least > margin {
		return api.Hit{}, api.ErrBlock
	}
	return hit, api.OK
}

// along returns a passage, with the errors of all that makes it.
func along(r api.Rig, l []api.Obstacle, way []api.Pose, margin int64) (*passage, api.Errno) {
	if e := checkPassage(r, l, way, margin); e != api.OK {
		return nil, e
	}
	p := newPassage(r, l)
	for _, pose := range way {
		s := p.spotOf(pose)
		if s.err != api.OK {
			return nil, s.err
		}
		p.spots = append(p.spots, s)
	}
	return p, api.OK
}

func checkPassage(r api.Rig, l []api.Obstacle, way []api.Pose, margin int64) api.Errno {
	if e := CheckRig(r); e != api.OK {
		return e
	}
	if e := CheckObstacles(l); e != api.OK {
		return e
	}
	if len(way) == 0 {
		return api.ErrRange
	}
	if len(way) > api.MaxPoses {
		return api.ErrMany
	}
	if e := checkPoses(r.Vehicle, way); e != api.OK {
		return e
	}
	if !isWithin(margin, 0, api.MaxSize) {
		return api.ErrRange
	}
	return api.OK
}

// newPassage returns a passage that is in no pose yet.
func newPassage(r api.Rig, l []api.Obstacle) *passage {
	p := &passage{vehicle: r.Vehicle}
	for _, o := range l {
		p.obstacles = append(p.obstacles, obstacle{o, boxOf(o.Hull)})
	}
	for i, s := range r.Sections {
		low, high := heights(r, i)
		one := part{on: s.On, corners: onBody(r, i)}
		for k, o := range l {
			if high >= o.Low && o.High >= low {
				one.level = append(one.level, k)
			}
		}
		p.parts = append(p.parts, one)
	}
	return p
}

// spotOf returns the corners in a pose, section by section.
func (p *passage) spotOf(pose api.Pose) spot {
	s := spot{Pose: pose}
	var b body
	for i, one := range p.parts {
		// Sections on the same body often follow each other, and finding a body takes longer than its places.
		if i == 0 || one.on != p.parts[i-1].on {
			if b, s.err = bodyOf(p.vehicle, pose, one.on); s.err != api.OK {
				return s
			}
		}
		var l []api.Point
		if l, s.err = b.places(one.corners); s.err != api.OK {
			return s
		}
		s.corners = append(s.corners, l)
	}
	return s
}

// steps returns the number of steps: with one pose there is one, from it to itself.
func (p *passage) steps() int { return max(1, len(p.spots)-1) }

// swept returns what a section sweeps in a step.
func (p *passage) swept(step, section int) *area {
	end := min(step+1, len(p.spots)-1)
	return newArea(p.spots[step].corners[section], p.spots[end].corners[section])
}

// level yields all that is level from a step on, each with what its section sweeps.
func (p *passage) level(from int) iter.Seq2[api.Hit, *area] {
	return func(yield func(api.Hit, *area) bool) {
		for step := from; step < p.steps(); step++ {
			for i, one := range p.parts {
				a := p.swept(step, i)
				for _, k := range one.level {
					if !yield(api.Hit{Step: step, Section: i, Obstacle: k}, a) {
						return
					}
				}
			}
		}
	}
}

// nearest returns the least gap of all that is level from a step on, if it is less than what is known already. It goes
// on up to the first one that is near enough, and returns where this is.
func (p *passage) nearest(from int, known, enough int64) (int64, api.Hit) {
	for hit, a := range p.level(from) {
		known = a.gap(p.obstacles[hit.Obstacle], known)
		if known <= enough {
			return known, hit
		}
	}
	return known, api.Hit{}
}
