package chain_test

// The oracles compute results once more, from the words of the chapter, with what package plane promises.

import (
	"fmt"
	"math/big"
	"testing"

	"gooseneck/api"
	"gooseneck/plane"
)

// pulledOf returns the pulled length of a unit.
func pulledOf(u api.Unit) int64 {
	n := new(big.Int).Mul(big.NewInt(u.Length), big.NewInt(1000-u.Steer))
	return n.Div(n, big.NewInt(1000)).Int64()
}

// jointOf returns the front joint of a unit; that behind the last unit is the tail.
func jointOf(v api.Vehicle, p api.Pose, i int) (api.Point, api.Errno) {
	if i == 0 {
		return p.Lead, api.OK
	}
	u := v.Units[i-1]
	return placeOf(v, p, i-1, pulledOf(u)-u.Length-u.Behind, 0)
}

func placeOf(v api.Vehicle, p api.Pose, i int, x, y int64) (api.Point, api.Errno) {
	joint, e := jointOf(v, p, i)
	if e != api.OK {
		return api.Point{}, e
	}
	return plane.Place(p.Axles[i], joint, x, y)
}

// isPoseOf reports whether a pose is valid.
func isPoseOf(v api.Vehicle, p api.Pose) bool {
	if len(p.Axles) != len(v.Units) || plane.Check(p.Lead) != api.OK {
		return false
	}
	for i, a := range p.Axles {
		joint, e := jointOf(v, p, i)
		if e != api.OK || plane.Check(a) != api.OK || a == joint {
			return false
		}
	}
	return true
}

// poseOf returns a pose, or ErrZero if it is not valid.
func poseOf(v api.Vehicle, p api.Pose) (api.Pose, api.Errno) {
	if !isPoseOf(v, p) {
		return api.Pose{}, api.ErrZero
	}
	return p, api.OK
}

func straightOf(v api.Vehicle, lead, behind api.Point) (api.Pose, api.Errno) {
	a, e := plane.Pull(lead, behind, pulledOf(v.Units[0]))
	if e != api.OK {
		return api.Pose{}, e
	}
	p := api.Pose{Lead: lead, Axles: []api.Point{a}}
	for i := 1; i < len(v.Units); i++ {
		u := v.Units[i-1]
		a, e := placeOf(v, p, i-1, pulledOf(u)-u.Length-u.Behind-pulledOf(v.Units[i]), 0)
		if e != api.OK {
			return api.Pose{}, e
		}
		p.Axles = append(p.Axles, a)
	}
	return poseOf(v, p)
}

// pullOf returns a pulled point that is steered by hand.
func pullOf(joint, a api.Point, length int64, steer int) (api.Point, api.Errno) {
	a, e := plane.Pull(joint, a, length)
	if e != api.OK || steer == 0 {
		return a, e
	}
	s := int64(steer)
	return plane.Rotate(a, joint, api.Rot{C: 160000 - s*s, S: 800 * s, N: 160000 + s*s})
}

func stepOf(v api.Vehicle, old api.Pose, lead api.Point, steer []int) (api.Pose, api.Errno) {
	p := api.Pose{Lead: lead}
	for i, u := range v.Units {
		joint, e := jointOf(v, p, i)
		if e != api.OK {
			return api.Pose{}, e
		}
		a, e := pullOf(joint, old.Axles[i], pulledOf(u), steer[i])
		if e != api.OK {
			return api.Pose{}, e
		}
		p.Axles = append(p.Axles, a)
	}
	return poseOf(v, p)
}

func backOf(v api.Vehicle, old api.Pose, tail api.Point, steer []int) (api.Pose, api.Errno) {
	p := api.Pose{Axles: make([]api.Point, len(v.Units))}
	for i := len(v.Units) - 1; i >= 0; i-- {
		var e api.Errno
		if p.Axles[i], e = pullOf(tail, old.Axles[i], v.Units[i].Behind, steer[i]); e != api.OK {
			return api.Pose{}, e
		}
		if tail, e = plane.Place(p.Axles[i], tail, -v.Units[i].Length, 0); e != api.OK {
			return api.Pose{}, e
		}
	}
	p.Lead = tail
	return poseOf(v, p)
}

func bodyOf(v api.Vehicle, p api.Pose, i int) ([]api.Point, api.Errno) {
	l, e := cornersOf(v, p, i)
	if e != api.OK {
		return nil, e
	}
	return plane.Hull(l)
}

// cornersOf returns the corners of a body: on the left and on the right in front, then behind.
func cornersOf(v api.Vehicle, p api.Pose, i int) ([]api.Point, api.Errno) {
	var l []api.Point
	u := v.Units[i]
	n := pulledOf(u)
	for _, c := range pts(n+u.Front, u.Width, n+u.Front, -u.Width, n-u.Length-u.Rear, u.Width, n-u.Length-u.Rear, -u.Width) {
		a, e := placeOf(v, p, i, c.X, c.Y)
		if e != api.OK {
			return nil, e
		}
		l = append(l, a)
	}
	return l, api.OK
}

func loadLineOf(v api.Vehicle, p api.Pose) ([2]api.Point, api.Errno) {
	middle := func(i int) (api.Point, api.Errno) {
		return placeOf(v, p, i, pulledOf(v.Units[i])-v.Units[i].Length, 0)
	}
	front, e := middle(v.From)
	if v.From == v.To {
		front, e = jointOf(v, p, v.From)
	}
	if e != api.OK {
		return [2]api.Point{}, e
	}
	rear, e := middle(v.To)
	if e != api.OK {
		return [2]api.Point{}, e
	}
	return [2]api.Point{front, rear}, api.OK
}

func foldedOf(t *testing.T, v api.Vehicle, p api.Pose) bool {
	way := func(i int) api.Point {
		joint := must[api.Point](t, "a joint")(jointOf(v, p, i))
		return pt(joint.X-p.Axles[i].X, joint.Y-p.Axles[i].Y)
	}
	for i := range len(v.Units) - 1 {
		h, a := way(i), way(i+1)
		if h.X*a.X+h.Y*a.Y < 0 {
			return true
		}
	}
	return false
}

// textOf returns the text of a vehicle.
func textOf(v api.Vehicle) string {
	s := fmt.Sprintln("vehicle", v.Name)
	for _, u := range v.Units {
		kind := map[int]string{0: "tractor", 1: "dolly", 2: "trailer", 3: "module"}[u.Kind]
		s += fmt.Sprintln(kind, u.Length, u.Behind, u.Front, u.Rear, u.Width, u.Height, u.Mass, u.Steer, u.Most)
		for _, a := range u.Axles {
			s += fmt.Sprintln("axle", a.X, a.Limit, a.Wheels)
		}
	}
	return s + fmt.Sprintln("load", v.From, v.To)
}

// leadsOf returns the leads of steps along a guide whose length is n.
func leadsOf(t *testing.T, guide []api.Point, n, s, d int64) []api.Point {
	var l []api.Point
	for ; s < n; s += d {
		p, _, e := plane.Along(guide, s)
		if e != api.OK {
			t.Fatalf("Along %v at %d: %d", guide, s, e)
		}
		l = append(l, p)
	}
	return append(l, guide[len(guide)-1])
}
