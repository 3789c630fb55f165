package sweep

import (
	"slices"

	"gooseneck/api"
	"gooseneck/chain"
	"gooseneck/plane"
)

// driver is a passage that grows while guides of a family are driven.
type driver struct {
	passage
	rows   [][]api.Choice
	length int64 // of a step
	margin int64
}

// beginning is a beginning of a guide that has been driven: its choices, and where it is blocked, or its clearance so far.
type beginning struct {
	api.Hit
	isBlocked bool
	clearance int64
}

// move is a step of a vehicle whose front, or tail, is led to a point.
type move func(to api.Point, steer []int) (api.Pose, api.Errno)

// Drive returns the poses of a beginning. (P5.5)
func Drive(f api.Family, choices []int) ([]api.Pose, api.Errno) {
	if e := checkBeginning(f, choices); e != api.OK {
		return nil, e
	}
	f.Obstacles = nil // these poses do not end where something is hit
	d := newDriver(f)
	d.follow(choices)
	var poses []api.Pose
	for _, s := range d.spots {
		poses = append(poses, api.Pose{Lead: s.Lead, Axles: slices.Clone(s.Axles)})
	}
	return poses, api.OK
}

// Try returns the hit with which a beginning is blocked, or true if it is not. (P5.5)
func Try(f api.Family, choices []int) (api.Hit, bool, api.Errno) {
	if e := checkBeginning(f, choices); e != api.OK {
		return api.Hit{}, false, e
	}
	b := newDriver(f).follow(choices)
	if b.isBlocked {
		return b.Hit, false, api.OK
	}
	return api.Hit{}, true, api.OK
}

// newDriver returns a driver at the start of a family.
func newDriver(f api.Family) *driver {
	d := &driver{passage: *newPassage(f.Rig, f.Obstacles), rows: f.Rows, length: f.Step, margin: f.Margin}
	d.spots = append(d.spots, d.spotOf(f.Start))
	return d
}

// nothing returns what has been driven at the start.
func nothing() beginning { return beginning{clearance: api.MaxClear} }

// follow drives a beginning, up to the step in which it is blocked.
func (d *driver) follow(choices []int) beginning {
	b := nothing()
	for _, i := range choices {
		if b = d.piece(b, i); b.isBlocked {
			break
		}
	}
	return b
}

// piece drives a beginning on by a piece, up to the step in which it is blocked.
func (d *driver) piece(b beginning, choice int) beginning {
	c := d.rows[len(b.Choices)][choice]
	b.Choices = append(slices.Clone(b.Choices), choice)
	from, e := d.end(c)
	if e != api.OK {
		return b.stuck(0)
	}
	guide := []api.Point{from, c.To}
	whole, _ := plane.Length(guide) // both points are valid
	for step := range api.MaxPiece {
		s := min(d.length*int64(step+1), whole)
		to, _, _ := plane.Along(guide, s)
		if !d.goOn(c, to) {
			return b.stuck(step)
		}
		least, hit := d.nearest(d.steps()-1, b.clearance, d.margin)
		if least <= d.margin {
			return b.blocked(step, hit.Section, hit.Obstacle)
		}
		b.clearance = least
		if s == whole {
			return b
		}
	}
	return b.stuck(api.MaxPiece)
}

// end returns the end of the vehicle that is led.
func (d *driver) end(c api.Choice) (api.Point, api.Errno) {
	if c.Back {
		return chain.Joint(d.vehicle, d.last().Pose, len(d.vehicle.Units))
	}
	return d.last().Lead, api.OK
}

// goOn drives a step of a piece, if it can be driven.
func (d *driver) goOn(c api.Choice, to api.Point) bool {
	steer := c.Steer
	if len(steer) == 0 {
		steer = make([]int, len(d.vehicle.Units))
	}
	lead := move(d.forward)
	if c.Back {
		lead = d.back
	}
	pose, e := lead(to, steer)
	if e != api.OK {
		return false
	}
	isFolded, _ := chain.Folded(d.vehicle, pose) // a pose that a step returns is valid
	next := d.spotOf(pose)
	if isFolded || d.last().err != api.OK || next.err != api.OK {
		return false
	}
	d.spots = append(d.spots, next)
	return true
}

func (d *driver) forward(to api.Point, steer []int) (api.Pose, api.Errno) {
	return chain.Step(d.vehicle, d.last().Pose, to, steer)
}

func (d *driver) back(to api.Point, steer []int) (api.Pose, api.Errno) {
	return chain.Back(d.vehicle, d.last().Pose, to, steer)
}

func (d *driver) last() spot { return d.spots[len(d.spots)-1] }

// blocked returns a beginning that is blocked in a step of its last piece.
func (b beginning) blocked(step, section, obstacle int) beginning {
	return beginning{Hit: api.Hit{Choices: b.Choices, Step: step, Section: section, Obstacle: obstacle}, isBlocked: true}
}

// stuck returns a beginning that cannot be driven on in a step of its last piece.
func (b beginning) stuck(step int) beginning { return b.blocked(step, -1, -1) }
