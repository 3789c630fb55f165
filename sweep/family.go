package sweep

import (
	"slices"

	"gooseneck/api"
	"gooseneck/chain"
	"gooseneck/plane"
)

// minStep is the least step of a family.
const minStep = 10

// CheckFamily reports whether a family is valid. (P5.5)
func CheckFamily(f api.Family) api.Errno {
	if hasTooMany(f.Rows) {
		return api.ErrMany
	}
	if CheckRig(f.Rig) != api.OK || chain.CheckPose(f.Rig.Vehicle, f.Start) != api.OK || CheckObstacles(f.Obstacles) != api.OK {
		return api.ErrArg
	}
	if !isWithin(f.Step, minStep, api.MaxPlace) || !isWithin(f.Margin, 0, api.MaxSize) || !areRows(f.Rig.Vehicle, f.Rows) {
		return api.ErrArg
	}
	return api.OK
}

// checkBeginning returns the errors of a family, and of a beginning of its guides.
func checkBeginning(f api.Family, choices []int) api.Errno {
	if e := CheckFamily(f); e != api.OK {
		return e
	}
	if !isWithin(len(choices), 1, len(f.Rows)) {
		return api.ErrRange
	}
	for row, i := range choices {
		if !isWithin(i, 0, len(f.Rows[row])-1) {
			return api.ErrRange
		}
	}
	return api.OK
}

func hasTooMany(rows [][]api.Choice) bool {
	if len(rows) > api.MaxRows {
		return true
	}
	guides := 1
	for _, row := range rows {
		if len(row) > api.MaxChoices {
			return true
		}
		guides *= max(1, len(row))
	}
	return guides > api.MaxGuides
}

func areRows(v api.Vehicle, rows [][]api.Choice) bool {
	for _, row := range rows {
		if len(row) == 0 || slices.ContainsFunc(row, func(c api.Choice) bool { return !isChoice(v, c) }) {
			return false
		}
	}
	return len(rows) > 0
}

func isChoice(v api.Vehicle, c api.Choice) bool {
	if plane.Check(c.To) != api.OK {
		return false
	}
	if len(c.Steer) == 0 {
		return true
	}
	if len(c.Steer) != len(v.Units) {
		return false
	}
	for i, u := range v.Units {
		if !isWithin(c.Steer[i], -u.Most, u.Most) {
			return false
		}
	}
	return true
}
