package chain_test

import (
	"testing"

	"gooseneck/api"
	"gooseneck/chain"
	"gooseneck/plane"
)

// axes are the directions of the axes.
var axes = []api.Point{{X: 1}, {Y: 1}, {X: -1}, {Y: -1}}

// moved returns a point that is n farther in a direction, and movedPose all points of a pose.
func moved(p, way api.Point, n int64) api.Point { return pt(p.X+n*way.X, p.Y+n*way.Y) }

func movedPose(p api.Pose, way api.Point, n int64) api.Pose {
	q := api.Pose{Lead: moved(p.Lead, way, n)}
	for _, a := range p.Axles {
		q.Axles = append(q.Axles, moved(a, way, n))
	}
	return q
}

// P3.9
func TestBars(t *testing.T) {
	r := chance(7)
	seen := 0
	for round := range 6000 {
		v := anyVehicle(r, 6, []int64{100, 1000, 20000, size}[round%4])
		p := anyPose(t, r, v, far/4)
		steer := anySteer(r, v)
		q, e := chain.Step(v, p, near(r, p.Lead, []int64{5, 1000, 2 * size}[r.IntN(3)]), steer)
		if e != api.OK {
			continue
		}
		for i, u := range v.Units {
			joint := must[api.Point](t, "Joint")(chain.Joint(v, q, i))
			n := pulledOf(u)
			if steer[i] != 0 || 16*distance(t, joint, p.Axles[i]) < n {
				continue
			}
			seen++
			if amount(distance(t, joint, q.Axles[i])-n) > 2 {
				t.Errorf("the unit %d of %v is pulled from %v to %v", i, v, p, q)
			}
		}
	}
	if seen < 5000 {
		t.Errorf("only %d bars were looked at", seen)
	}
}

// P3.10
func TestStraightAhead(t *testing.T) {
	r := chance(8)
	for round := range 1000 {
		v := anyVehicle(r, 12, []int64{100, 1000, 20000, size}[round%4])
		way, lead := axes[r.IntN(4)], anyPoint(r, far/2)
		p := straight(t, v, lead, moved(lead, way, -from(r, 1, far/2)))
		var on int64
		for range 20 {
			on += from(r, 0, 9)
			q, e := chain.Step(v, p, moved(lead, way, on), make([]int, len(v.Units)))
			if e != api.OK {
				t.Fatalf("a step ahead of %v in %v: %d", v, p, e)
			}
			p = q
			for i := range v.Units {
				joint := must[api.Point](t, "Joint")(chain.Joint(v, p, i))
				for _, at := range []api.Point{joint, p.Axles[i]} {
					if way.X == 0 && at.X != lead.X || way.Y == 0 && at.Y != lead.Y {
						t.Fatalf("%v in %v has left its axis", v, p)
					}
				}
			}
			folded, e := chain.Folded(v, p)
			check(t, "Folded straight ahead", folded, e, false, api.OK)
		}
	}
}

// P3.10: with units whose rear joints are behind their axles, all points go on as the lead does.
func TestStraightAheadAsAWhole(t *testing.T) {
	r := chance(9)
	for range 500 {
		v := backed(r, anyVehicle(r, 12, 20000), 9000)
		way, lead := axes[r.IntN(4)], anyPoint(r, far/2)
		p := straight(t, v, lead, moved(lead, way, -5))
		n := from(r, 0, 90)
		q, e := chain.Step(v, p, moved(lead, way, n), make([]int, len(v.Units)))
		checkPose(t, "a step ahead", q, e, movedPose(p, way, n), api.OK)
	}
}

// P3.11: Follow is Step again and again, and units behind have no influence on those ahead.
func TestOneByOne(t *testing.T) {
	r := chance(10)
	errors := map[api.Errno]int{}
	for round := range 1500 {
		v := anyVehicle(r, 6, []int64{100, 1000, 20000, size}[round%4])
		p := anyPose(t, r, v, []int64{1000, far / 2}[r.IntN(2)])
		guide := []api.Point{p.Lead, near(r, p.Lead, 3000), near(r, p.Lead, 3000)}
		for i, g := range guide {
			guide[i] = pt(min(far, max(-far, g.X)), min(far, max(-far, g.Y)))
		}
		n := must[int64](t, "Length of a guide")(plane.Length(guide))
		s, d := from(r, 0, n), from(r, 50, 4000)
		leads := leadsOf(t, guide, n, s, d)
		var steer [][]int
		for range leads {
			steer = append(steer, anySteer(r, v))
		}
		want, wantErr := stepsOf(v, p, leads, steer)
		got, e := chain.Follow(v, p, guide, s, d, steer)
		checkPoses(t, "Follow by chance", got, e, want, wantErr)
		errors[e]++
		if e != api.OK {
			continue
		}
		first := 1 + r.IntN(len(v.Units))
		short := loaded(clone(v), 0, 0)
		short.Units = short.Units[:first]
		for k := range steer {
			steer[k] = steer[k][:first]
			want[k].Axles = want[k].Axles[:first]
		}
		p.Axles = p.Axles[:first]
		got, e = chain.Follow(short, p, guide, s, d, steer)
		checkPoses(t, "without the units behind", got, e, want, api.OK)
	}
	if errors[api.OK] < 500 || errors[api.ErrOver] < 10 {
		t.Errorf("the ways are too much alike: %v", errors)
	}
}

// stepsOf returns the poses behind steps, or the error of the first one that has one.
func stepsOf(v api.Vehicle, p api.Pose, leads []api.Point, steer [][]int) ([]api.Pose, api.Errno) {
	var l []api.Pose
	for k, lead := range leads {
		q, e := chain.Step(v, p, lead, steer[k])
		if e != api.OK {
			return nil, e
		}
		p = q
		l = append(l, p)
	}
	return l, api.OK
}

// P3.13
func TestThereAndBack(t *testing.T) {
	r := chance(11)
	for round := range 1500 {
		most := []int64{100, 1000, 20000, size}[round%4]
		v := backed(r, anyVehicle(r, 12, most), most)
		way, lead := axes[r.IntN(4)], anyPoint(r, far/2)
		p := straight(t, v, lead, moved(lead, way, -from(r, 1, 1000)))
		tail := must[api.Point](t, "the tail")(chain.Joint(v, p, len(v.Units)))
		none := make([]int, len(v.Units))
		q, e := chain.Back(v, p, tail, none)
		checkPose(t, "a step back to the tail", q, e, p, api.OK)
		n := from(r, 1, far/8)
		q, e = chain.Back(v, p, moved(tail, way, -n), none)
		checkPose(t, "a step farther back", q, e, movedPose(p, way, -n), api.OK)
	}
}
