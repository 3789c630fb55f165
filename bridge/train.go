package bridge

import (
	"cmp"
	"slices"

	"gooseneck/api"
	"gooseneck/chain"
)

// Train returns the train of a vehicle. (P6.2)
func Train(v api.Vehicle, loads []int64) ([]api.Force, api.Errno) {
	if e := chain.Check(v); e != api.OK {
		return nil, e
	}
	if len(loads) != len(v.Units) {
		return nil, api.ErrEqual
	}
	if !areWithin(loads, 0, api.MaxForce) {
		return nil, api.ErrRange
	}
	t := train(v, loads)
	if CheckTrain(t) != api.OK {
		return nil, api.ErrOver
	}
	return t, api.OK
}

func train(v api.Vehicle, loads []int64) []api.Force {
	var t []api.Force
	joint := int64(0)
	for i, u := range v.Units {
		for _, a := range u.Axles {
			t = append(t, api.Force{X: joint + a.X, P: loads[i]})
		}
		joint += u.Length + u.Behind
	}
	slices.SortStableFunc(t, func(a, b api.Force) int { return cmp.Compare(a.X, b.X) })
	first := t[0].X
	for i := range t {
		t[i].X -= first
	}
	return t
}

// multiplied returns a train multiplied by so many thousandths.
func multiplied(t []api.Force, thousandths int64) []api.Force {
	t = slices.Clone(t)
	for i := range t {
		t[i].P = up(t[i].P*thousandths, api.Whole)
	}
	return t
}
