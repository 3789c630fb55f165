package permit

import (
	"slices"

	"gooseneck/api"
)

// Conflict returns a conflict of a passage. (P8.8)
func Conflict(l []api.Authority, t api.Trip, passage int) (int, []int, api.Errno) {
	own, e := look(l, t, passage)
	if e != api.OK {
		return api.ConflictNone, nil, e
	}
	things := own.things()
	kind := own.conflict(things)
	if kind == api.ConflictNone {
		return api.ConflictNone, nil, api.OK
	}
	few := own.fewest(func(left conditions) bool { return left.contradict(kind, things) })
	return kind, few.numbers(), api.OK
}

// Cures returns the conditions without which there is no conflict. (P8.8)
func Cures(l []api.Authority, t api.Trip, passage int) ([]int, api.Errno) {
	own, e := look(l, t, passage)
	if e != api.OK {
		return nil, e
	}
	things := own.things()
	if own.conflict(things) == api.ConflictNone {
		return nil, api.ErrNone
	}
	var cures conditions
	for i, c := range own {
		if own.without(i).conflict(things) == api.ConflictNone {
			cures = append(cures, c)
		}
	}
	return cures.numbers(), api.OK
}

// things returns the things of the counts of conditions, each one once.
func (l conditions) things() []string {
	var all []string
	for _, c := range l {
		for _, n := range c.rule.Counts {
			if !slices.Contains(all, n.Thing) {
				all = append(all, n.Thing)
			}
		}
	}
	return all
}

// conflict returns the least kind of which conditions contradict each other, of those with some things.
func (l conditions) conflict(things []string) int {
	for kind := api.ConflictForbid; kind < api.ConflictThing+len(things); kind++ {
		if l.contradict(kind, things) {
			return kind
		}
	}
	return api.ConflictNone
}

// contradict reports whether conditions contradict each other, of a kind; that of a thing is by its number among things.
func (l conditions) contradict(kind int, things []string) bool {
	if kind >= api.ConflictThing {
		return l.disagree(things[kind-api.ConflictThing])
	}
	kinds := [...]func(conditions) bool{
		api.ConflictForbid: conditions.forbid,
		api.ConflictHours:  conditions.leaveNoHours,
		api.ConflictDays:   conditions.leaveNoDays,
		api.ConflictSeason: conditions.leaveNoSeason,
	}
	return kinds[kind](l)
}

func (l conditions) leaveNoHours() bool  { return !slices.Contains(l.hours(), true) }
func (l conditions) leaveNoDays() bool   { return !slices.Contains(l.days(), true) }
func (l conditions) leaveNoSeason() bool { return !slices.Contains(l.season(), true) }

// disagree reports whether no number of a thing is right for all conditions.
func (l conditions) disagree(thing string) bool {
	least, most := int64(0), int64(maxThings)
	for _, c := range l {
		for _, n := range c.rule.Counts {
			if n.Thing == thing {
				least, most = max(least, n.Least), min(most, n.Most)
			}
		}
	}
	return least > most
}

// fewest leaves out conditions, from the last one to the first one, while something is so without them.
func (l conditions) fewest(isSo func(left conditions) bool) conditions {
	for i := len(l) - 1; i >= 0; i-- {
		if left := l.without(i); isSo(left) {
			l = left
		}
	}
	return l
}
