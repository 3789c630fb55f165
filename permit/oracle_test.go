package permit_test

import (
	"slices"

	"gooseneck/api"
)

// What is here follows the definitions of the chapter, minute by minute, and set by set.

// lies reports whether a number lies between two others.
func lies(n int64, ends [2]int64) bool {
	a, b := ends[0], ends[1]
	if a < b {
		return n >= a && n <= b-1
	}
	return n >= a || n <= b-1
}

func authorityOf(l []api.Authority, name string) int {
	for i, a := range l {
		if a.Name == name {
			return i
		}
	}
	return -1
}

func isForPassage(r api.Rule, p api.Passage, sizes [6]int64) bool {
	for _, w := range r.Whens {
		if sizes[w.Size] < w.Least {
			return false
		}
	}
	return len(r.Roads) == 0 || slices.Contains(r.Roads, p.Road)
}

// permitOf returns the permit of a trip.
func permitOf(l []api.Authority, t api.Trip) api.Permit {
	var p api.Permit
	named := map[int]bool{}
	for i, passage := range t.Passages {
		k := authorityOf(l, passage.Authority)
		if !named[k] {
			p.Fee += l[k].Fee
		}
		named[k] = true
		p.Notice = max(p.Notice, l[k].Notice)
		for n, r := range l[k].Rules {
			if isForPassage(r, passage, t.Sizes) {
				p.Conditions = append(p.Conditions, api.Condition{Passage: i, Authority: k, Rule: n})
				p.Fee += r.Cost
			}
		}
	}
	return p
}

// rulesOf returns the rules of the conditions of a passage, and the numbers of these conditions.
func rulesOf(l []api.Authority, t api.Trip, passage int) ([]api.Rule, []int) {
	var rules []api.Rule
	var numbers []int
	for i, c := range permitOf(l, t).Conditions {
		if c.Passage == passage {
			rules = append(rules, l[c.Authority].Rules[c.Rule])
			numbers = append(numbers, i)
		}
	}
	return rules, numbers
}

func allows(r api.Rule, t int64) bool {
	d := t / 1440
	return !r.Forbid && lies(t%1440, r.Hours) && r.Days&(1<<(d%7)) != 0 && lies(d%365, r.Season)
}

func isAllowed(rules []api.Rule, t int64) bool {
	for _, r := range rules {
		if !allows(r, t) {
			return false
		}
	}
	return true
}

// areAllowed reports whether all minutes from one on are allowed that are before another one.
func areAllowed(rules []api.Rule, from, to int64) bool {
	for t := from; t < to; t++ {
		if !isAllowed(rules, t) {
			return false
		}
	}
	return true
}

// nextOf returns the first start on the 400 days from the day of a minute on; -1 if there is none.
func nextOf(rules []api.Rule, minutes, from int64) int64 {
	// Looked at from behind, each minute has how many are allowed from it on.
	end := from - from%1440 + 400*1440
	var behind int64
	next := int64(-1)
	for t := end + minutes - 1; t >= from; t-- {
		behind++
		if !isAllowed(rules, t) {
			behind = 0
		}
		if behind >= minutes && t < end {
			next = t
		}
	}
	return next
}

// windowsOf returns the longest windows between two minutes that are long enough.
func windowsOf(rules []api.Rule, minutes, from, to int64) []api.Window {
	var l []api.Window
	for t := from; t < to; t++ {
		if !isAllowed(rules, t) || t > from && isAllowed(rules, t-1) {
			continue
		}
		end := t
		for end < to && isAllowed(rules, end) {
			end++
		}
		if end-t >= minutes {
			l = append(l, api.Window{From: t, To: end})
		}
	}
	return l
}

// supplyOf returns how many of a thing there are.
func supplyOf(things []api.Count, name string) int64 {
	i := slices.IndexFunc(things, func(c api.Count) bool { return c.Thing == name })
	if i < 0 {
		return 0
	}
	return things[i].Least
}

// breaks reports whether a crossing breaks a rule.
func breaks(r api.Rule, c api.Crossing, minutes int64) bool {
	for _, n := range r.Counts {
		if k := supplyOf(c.Things, n.Thing); k < n.Least || k > n.Most {
			return true
		}
	}
	return !areAllowed([]api.Rule{r}, c.Start, c.Start+minutes)
}

// thingsOf returns the things of rules, in the order in which they first appear.
func thingsOf(rules []api.Rule) []string {
	var l []string
	for _, r := range rules {
		for _, c := range r.Counts {
			if !slices.Contains(l, c.Thing) {
				l = append(l, c.Thing)
			}
		}
	}
	return l
}

// doContradict reports whether rules contradict each other, of a kind.
func doContradict(rules []api.Rule, kind int, things []string) bool {
	// isIn reports whether a number is right for all rules; one of so many has to be.
	isIn, numbers := func(api.Rule, int64) bool { return true }, int64(1)
	switch kind {
	case api.ConflictForbid:
		isIn = func(r api.Rule, _ int64) bool { return !r.Forbid }
	case api.ConflictHours:
		isIn, numbers = func(r api.Rule, n int64) bool { return lies(n, r.Hours) }, 1440
	case api.ConflictDays:
		isIn, numbers = func(r api.Rule, n int64) bool { return r.Days&(1<<n) != 0 }, 7
	case api.ConflictSeason:
		isIn, numbers = func(r api.Rule, n int64) bool { return lies(n, r.Season) }, 365
	default:
		thing := things[kind-api.ConflictThing]
		numbers = 1001
		isIn = func(r api.Rule, n int64) bool {
			return !slices.ContainsFunc(r.Counts, func(c api.Count) bool { return c.Thing == thing && (n < c.Least || n > c.Most) })
		}
	}
	for n := range numbers {
		if !slices.ContainsFunc(rules, func(r api.Rule) bool { return !isIn(r, n) }) {
			return false
		}
	}
	return true
}

// kindOf returns the least kind of which rules contradict each other.
func kindOf(rules []api.Rule) int {
	things := thingsOf(rules)
	for kind := 1; kind < 5+len(things); kind++ {
		if doContradict(rules, kind, things) {
			return kind
		}
	}
	return 0
}

// conflictOf returns the conflict of rules, with the indexes of those that are left.
func conflictOf(rules []api.Rule) (int, []int) {
	kind := kindOf(rules)
	if kind == 0 {
		return 0, nil
	}
	var left []int
	for i := range rules {
		left = append(left, i)
	}
	for i := len(rules) - 1; i >= 0; i-- {
		var fewer []int
		var rest []api.Rule
		for _, k := range left {
			if k != i {
				fewer, rest = append(fewer, k), append(rest, rules[k])
			}
		}
		if doContradict(rest, kind, thingsOf(rules)) {
			left = fewer
		}
	}
	return kind, left
}
