package convoy_test

import (
	"slices"

	"gooseneck/api"
	"gooseneck/permit"
)

// model is a convoy that follows the definitions of the chapter, minute by minute.
type model struct {
	l                        []api.Authority
	t                        api.Trip
	plan                     []api.Crossing
	next                     int
	isMoving                 bool
	began, held, time, ready int64
	things                   []api.Count
	closures                 []api.Report
	taken                    int
	deviations               []api.Deviation
}

func modelOf(l []api.Authority, t api.Trip, plan []api.Crossing) *model {
	m := &model{l: cloneAll(l), t: cloneTrip(t), plan: clonePlan(plan)}
	for _, n := range plan[0].Things {
		if !slices.ContainsFunc(m.things, func(x api.Count) bool { return x.Thing == n.Thing }) {
			m.things = append(m.things, api.Count{Thing: n.Thing, Least: n.Least})
		}
	}
	return m
}

func (m *model) state() state {
	return state{m.time, m.next, m.isMoving, m.next == len(m.plan), m.things, m.plan, m.deviations, m.free()}
}

func (m *model) free() int64 {
	if m.isMoving {
		return max(m.time, m.began+m.t.Passages[m.next].Minutes+m.held)
	}
	return max(m.time, m.ready)
}

func (m *model) first() int {
	if m.isMoving {
		return m.next + 1
	}
	return m.next
}

// ruled is the rule of a condition, with the number of this one.
type ruled struct {
	number int
	api.Rule
}

func (m *model) rules(passage int) []ruled {
	var l []ruled
	p, _ := permit.Compile(m.l, m.t)
	for i, c := range p.Conditions {
		if c.Passage == passage {
			l = append(l, ruled{i, m.l[c.Authority].Rules[c.Rule]})
		}
	}
	return l
}

// lies reports whether a number lies between two others.
func lies(n int64, ends [2]int64) bool {
	if ends[0] < ends[1] {
		return n >= ends[0] && n < ends[1]
	}
	return n >= ends[0] || n < ends[1]
}

func (r ruled) allows(t int64) bool {
	d := t / day
	return !r.Forbid && lies(t%day, r.Hours) && r.Days&(1<<(d%7)) != 0 && lies(d%365, r.Season)
}

// allowsAll reports whether a rule allows all minutes from one on that are before another one.
func (r ruled) allowsAll(from, to int64) bool {
	for t := from; t < to; t++ {
		if !r.allows(t) {
			return false
		}
	}
	return true
}

// counts reports whether things are as a rule wants them.
func (r ruled) counts(things []api.Count) bool {
	for _, c := range r.Counts {
		var n int64
		for _, x := range slices.Backward(things) {
			if x.Thing == c.Thing {
				n = x.Least
			}
		}
		if n < c.Least || n > c.Most {
			return false
		}
	}
	return true
}

// numbers returns the numbers of the conditions of a passage for which something is so.
func (m *model) numbers(passage int, is func(r ruled) bool) []int {
	var l []int
	for _, r := range m.rules(passage) {
		if is(r) {
			l = append(l, r.number)
		}
	}
	return l
}

func (m *model) broken(passage int, x api.Crossing) []int {
	return m.numbers(passage, func(r ruled) bool {
		return !r.counts(x.Things) || !r.allowsAll(x.Start, x.Start+m.t.Passages[passage].Minutes)
	})
}

func (m *model) isClosed(passage int, at int64) bool {
	p := m.t.Passages[passage]
	return slices.ContainsFunc(m.closures, func(c api.Report) bool { return c.Name == p.Road && c.From < at+p.Minutes && at < c.To })
}

// report takes a report that Report has taken, and returns its deviations.
func (m *model) report(r api.Report) []api.Deviation {
	var found []api.Deviation
	add := func(is bool, kind int, minutes int64, conditions ...int) {
		if is {
			found = append(found, api.Deviation{Report: m.taken, Kind: kind, Passage: m.next, Minutes: minutes, Conditions: conditions})
		}
	}
	m.time = r.At
	switch r.Kind {
	case api.ReportBegin:
		late := r.At - m.plan[m.next].Start
		broken := m.broken(m.next, api.Crossing{Start: r.At, Things: m.things})
		add(late < 0, api.DeviateEarly, -late)
		add(late > 0, api.DeviateLate, late)
		add(m.isClosed(m.next, r.At), api.DeviateClosed, 0)
		add(len(broken) > 0, api.DeviateRule, 0, broken...)
		m.isMoving, m.began, m.held = true, r.At, 0
	case api.ReportEnd:
		slow := r.At - m.began - m.t.Passages[m.next].Minutes - m.held
		broken := m.numbers(m.next, func(x ruled) bool { return !x.allowsAll(m.began, r.At) })
		add(slow < 0, api.DeviateFast, -slow)
		add(slow > 0, api.DeviateSlow, slow)
		add(len(broken) > 0, api.DeviateRule, 0, broken...)
		m.isMoving, m.next, m.ready = false, m.next+1, r.At
	case api.ReportHold:
		if m.isMoving {
			m.held += r.N
		} else if r.At+r.N > m.ready {
			m.ready = r.At + r.N
		}
	case api.ReportThing:
		if i := slices.IndexFunc(m.things, func(x api.Count) bool { return x.Thing == r.Name }); i >= 0 {
			m.things[i].Least = r.N
		} else {
			m.things = append(m.things, api.Count{Thing: r.Name, Least: r.N})
		}
	case api.ReportClose:
		m.closures = append(m.closures, r)
	}
	m.taken++
	m.deviations = append(m.deviations, found...)
	return found
}

// error returns the error of a report.
func (m *model) error(r api.Report) api.Errno {
	isName := r.Name != "" && len(r.Name) <= 20
	for _, b := range []byte(r.Name) {
		isName = isName && (b >= 'a' && b <= 'z' || b >= '0' && b <= '9')
	}
	isKnown := slices.ContainsFunc(m.things, func(x api.Count) bool { return x.Thing == r.Name })
	switch {
	case r.At < 0 || r.At > greatest || r.Kind < 1 || r.Kind > 6,
		r.Kind == api.ReportHold && (r.N < 1 || r.N > 10080),
		r.Kind == api.ReportThing && (!isName || r.N < 0 || r.N > 1000),
		r.Kind == api.ReportClose && (!isName || r.From < 0 || r.From >= r.To || r.To > greatest):
		return api.ErrArg
	case r.At < m.time:
		return api.ErrOld
	case m.taken >= 400:
		return api.ErrFull
	case r.Kind == api.ReportBegin && (m.isMoving || m.next == len(m.plan)),
		r.Kind == api.ReportEnd && (!m.isMoving || r.At == m.began):
		return api.ErrState
	case r.Kind == api.ReportClose && len(m.closures) >= 16,
		r.Kind == api.ReportThing && !isKnown && len(m.things) >= 6:
		return api.ErrFull
	}
	return api.OK
}

// earliest returns the least start of a passage from a time on; -1 if there is none.
func (m *model) earliest(passage int, from int64) int64 {
	rules, minutes := m.rules(passage), m.t.Passages[passage].Minutes
	// allowed is how many minutes one after another are allowed up to one.
	var allowed int64
	for t := from; ; t++ {
		start := t - minutes + 1
		if start/day-from/day >= 400 || start > greatest {
			return -1
		}
		allowed++
		if slices.ContainsFunc(rules, func(r ruled) bool { return !r.allows(t) }) {
			allowed = 0
		}
		if allowed >= minutes && !m.isClosed(passage, start) {
			return start
		}
	}
}

func (m *model) replan() (proposal, api.Errno) {
	p := proposal{Passage: m.first()}
	free := m.free()
	for i := m.first(); i < len(m.plan); i++ {
		if len(m.numbers(i, func(r ruled) bool { return !r.counts(m.things) })) > 0 {
			return proposal{Passage: i}, api.ErrRule
		}
		start := m.earliest(i, free)
		if start < 0 {
			return proposal{Passage: i}, api.ErrLate
		}
		p.Plan = append(p.Plan, api.Crossing{Start: start, Things: m.things})
		free = start + m.t.Passages[i].Minutes
	}
	return p, api.OK
}

func (m *model) adopt(plan []api.Crossing) (int, api.Errno) {
	if len(plan) != len(m.plan)-m.first() {
		return 0, api.ErrEqual
	}
	free := m.free()
	for i, x := range plan {
		passage := m.first() + i
		_, e := permit.Broken(m.l, m.t, passage, x)
		switch {
		case e != api.OK:
			return passage, e
		case x.Start < free:
			return passage, api.ErrLate
		case m.isClosed(passage, x.Start):
			return passage, api.ErrBlock
		case len(m.broken(passage, x)) > 0:
			return passage, api.ErrRule
		}
		free = x.Start + m.t.Passages[passage].Minutes
	}
	m.plan = append(m.plan[:m.first()], clonePlan(plan)...)
	return m.first(), api.OK
}

// isWithin reports whether a point is within t of a point of a piece, in X and in Y: whether a part of the piece lies in the
// square around the point. Both ends of this part are fractions of the piece, of the denominators of which all are above 0.
func isWithin(a, b, p api.Point, t int64) bool {
	// The part from low/lowOf to high/highOf.
	low, lowOf, high, highOf := int64(0), int64(1), int64(1), int64(1)
	for _, x := range [][3]int64{{a.X, b.X, p.X}, {a.Y, b.Y, p.Y}} {
		first, way, least, most := x[0], x[1]-x[0], x[2]-t, x[2]+t
		if way < 0 {
			first, way, least, most = -first, -way, -most, -least
		}
		if way == 0 {
			if first < least || first > most {
				return false
			}
			continue
		}
		if n := least - first; n*lowOf > low*way {
			low, lowOf = n, way
		}
		if n := most - first; n*highOf < high*way {
			high, highOf = n, way
		}
	}
	return low*highOf <= high*lowOf
}

// offOf returns how far off a guide a point is, looked for mm by mm, and its piece.
func offOf(guide []api.Point, p api.Point) (int64, int) {
	for t := int64(0); ; t++ {
		for i := range len(guide) - 1 {
			if isWithin(guide[i], guide[i+1], p, t) {
				return t, i
			}
		}
	}
}

// upTo returns the numbers from 0 to n - 1.
func upTo(n int) []int {
	var l []int
	for i := range n {
		l = append(l, i)
	}
	return l
}
