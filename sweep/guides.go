package sweep

import (
	"cmp"
	"slices"

	"gooseneck/api"
)

// Passable returns the passable guides. (P5.6)
func Passable(f api.Family) ([][]int, api.Errno) {
	if e := CheckFamily(f); e != api.OK {
		return nil, e
	}
	var guides [][]int
	newDriver(f).drive(nothing(), func(end beginning) bool {
		if !end.isBlocked {
			guides = append(guides, end.Choices)
		}
		return true
	})
	return guides, api.OK
}

// Best returns the passable guide with the greatest clearance, and its clearance. (P5.6)
func Best(f api.Family) ([]int, int64, api.Errno) {
	if e := CheckFamily(f); e != api.OK {
		return nil, 0, e
	}
	var best beginning
	d := newDriver(f)
	d.drive(nothing(), func(end beginning) bool {
		if !end.isBlocked {
			// Only a greater clearance is better: what has no more, also by its beginning, may as well be blocked.
			best, d.margin = end, end.clearance
		}
		return true
	})
	if best.Choices == nil {
		return nil, 0, api.ErrPlan
	}
	return best.Choices, best.clearance, api.OK
}

// Prove returns a proof that no guide is passable. (P5.7)
func Prove(f api.Family) ([]api.Hit, api.Errno) {
	if e := CheckFamily(f); e != api.OK {
		return nil, e
	}
	hits, areAll := prove(f)
	if !areAll {
		return nil, api.ErrPlan
	}
	return hits, api.OK
}

// CheckProof reports whether a proof that no guide is passable is right. (P5.7)
func CheckProof(f api.Family, l []api.Hit) api.Errno {
	if e := CheckFamily(f); e != api.OK {
		return e
	}
	if len(l) > api.MaxGuides {
		return api.ErrMany
	}
	// Of the beginnings of a guide just one is blocked in its last piece and in none before. So a right proof has all hits
	// with which guides are blocked, and no others.
	sorted := slices.Clone(l)
	slices.SortFunc(sorted, compareHits)
	sorted = slices.CompactFunc(sorted, isSameHit)
	hits, areAll := prove(f)
	if !areAll || !slices.EqualFunc(sorted, hits, isSameHit) {
		return api.ErrSum
	}
	return api.OK
}

// prove returns the hits with which guides are blocked, and whether these are all guides.
func prove(f api.Family) ([]api.Hit, bool) {
	var hits []api.Hit
	areAll := newDriver(f).drive(nothing(), func(end beginning) bool {
		if end.isBlocked {
			hits = append(hits, end.Hit)
		}
		return end.isBlocked
	})
	return hits, areAll
}

// drive drives all guides that go on from a beginning, and tells of the end of each of them, in lexicographic order, as
// long as told says so. Those that are blocked with the same beginning end there together. It reports whether it has told
// of all.
func (d *driver) drive(b beginning, told func(beginning) bool) bool {
	if b.isBlocked || len(b.Choices) == len(d.rows) {
		return told(b)
	}
	driven := len(d.spots)
	for i := range d.rows[len(b.Choices)] {
		d.spots = d.spots[:driven]
		if !d.drive(d.piece(b, i), told) {
			return false
		}
	}
	return true
}

func compareHits(a, b api.Hit) int {
	return cmp.Or(slices.Compare(a.Choices, b.Choices), cmp.Compare(a.Step, b.Step),
		cmp.Compare(a.Section, b.Section), cmp.Compare(a.Obstacle, b.Obstacle))
}

func isSameHit(a, b api.Hit) bool { return compareHits(a, b) == 0 }
