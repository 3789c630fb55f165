package convoy_test

import (
	"math/rand/v2"
	"slices"
	"testing"

	"gooseneck/api"
	"gooseneck/convoy"
	"gooseneck/permit"
)

// trace is what has happened to the passages that have ended.
type trace struct {
	began, held, ended []int64
	things             [][]api.Count
}

// drive gives reports to a convoy, most of them as planned, and returns what has happened.
func drive(r *rand.Rand, c *convoy.Convoy, m *model) trace {
	var past trace
	for range 4 * len(m.plan) {
		x := anyReport(r, m)
		switch {
		case r.IntN(20) == 0:
		case m.isMoving && r.IntN(3) > 0:
			x = end(max(m.free(), m.began+1))
		case !m.isMoving && m.next < len(m.plan) && r.IntN(3) > 0:
			x = begin(max(m.time, m.plan[m.next].Start))
		default:
			x = pick(r, nothing(m.time), hold(m.time, from(r, 1, 20)), thing(m.time, "d", from(r, 0, 9)))
		}
		if _, e := c.Report(x); e != api.OK {
			continue
		}
		switch x.Kind {
		case api.ReportBegin:
			past.began, past.held, past.things = append(past.began, x.At), append(past.held, 0), append(past.things, c.Things())
		case api.ReportEnd:
			past.ended = append(past.ended, x.At)
		case api.ReportHold:
			if n := len(past.held); m.isMoving && n > 0 {
				past.held[n-1] += x.N
			}
		}
		m.report(x)
	}
	return past
}

// P10.7: if no report had a deviation, each passage that has ended was begun at its start, took its minutes and what it was
// held, and its crossing broke no condition; all minutes of it were allowed.
func TestKept(t *testing.T) {
	r := chance(5)
	passages, others := 0, 0
	for range 1500 {
		c, m := anyConvoy(t, r)
		past := drive(r, c, m)
		if len(c.Deviations()) > 0 {
			others++
			continue
		}
		for i, ended := range past.ended {
			x := m.plan[i]
			if past.began[i] != x.Start || ended-past.began[i] != m.t.Passages[i].Minutes+past.held[i] {
				t.Errorf("the passage %d was from %d to %d, with %d held, by the plan %v", i, past.began[i], ended, past.held[i], x)
			}
			broken, _ := permit.Broken(m.l, m.t, i, api.Crossing{Start: past.began[i], Things: past.things[i]})
			if len(broken) > 0 {
				t.Errorf("the conditions %v are broken", broken)
			}
			for _, one := range m.rules(i) {
				if !one.allowsAll(past.began[i], ended) {
					t.Errorf("the condition %d does not allow all from %d to %d", one.number, past.began[i], ended)
				}
			}
			passages++
		}
	}
	if passages < 500 || others < 100 {
		t.Errorf("%d passages as planned, %d convoys not", passages, others)
	}
}

// P10.8: what Replan returns is accepted by Adopt; each start between when it is looked for and that of the plan is forbidden
// by a condition, or a closure is in the way. P10.9: if there is no plan, no start is possible, or a count is broken.
func TestEarliest(t *testing.T) {
	r := chance(6)
	waits, rules, lates := 0, 0, 0
	for range 1500 {
		c, m := anyConvoy(t, r)
		for range r.IntN(10) {
			if x := anyReport(r, m); m.error(x) == api.OK {
				tell(t, c, x)
				m.report(x)
			}
		}
		n, plan, e := c.Replan()
		free := c.Free()
		for i, x := range plan {
			waits += len(checkNone(t, r, m, n+i, free, x.Start))
			free = x.Start + m.t.Passages[n+i].Minutes
		}
		switch e {
		case api.OK:
			got, e := c.Copy().Adopt(plan)
			check(t, "Adopt of "+shown(plan), got, e, n, api.OK)
		case api.ErrRule:
			rules++
			for _, at := range append(upTo(20), 1<<30) {
				x := api.Crossing{Start: int64(at) * 200, Things: c.Things()}
				if isBrokenByCount := len(m.numbers(n, func(r ruled) bool { return !r.counts(x.Things) })) > 0; !isBrokenByCount {
					t.Errorf("no count of the passage %d is broken", n)
				}
				if broken, _ := permit.Broken(m.l, m.t, n, x); len(broken) == 0 {
					t.Errorf("%v breaks nothing", x)
				}
			}
		case api.ErrLate:
			if n == m.first() {
				lates++
				checkNone(t, r, m, n, free, min(free-free%day+400*day, greatest+1))
			}
		}
	}
	if waits < 1000 || rules < 20 || lates < 20 {
		t.Errorf("%d starts were forbidden, a count was broken %d times, and it was too late %d times", waits, rules, lates)
	}
}

// checkNone looks at some minutes from one on that are before another one, and reports those at which a passage may begin. It
// returns the minutes.
func checkNone(t *testing.T, r *rand.Rand, m *model, passage int, low, high int64) []int64 {
	t.Helper()
	var looked []int64
	if low < high {
		looked = []int64{low, high - 1, from(r, low, high-1), from(r, low, high-1), from(r, max(low, high-100), high-1)}
	}
	for _, at := range looked {
		minutes := m.t.Passages[passage].Minutes
		isForbidden := slices.ContainsFunc(m.rules(passage), func(x ruled) bool { return !x.allowsAll(at, at+minutes) })
		if !isForbidden && !m.isClosed(passage, at) {
			t.Errorf("the passage %d may begin at %d", passage, at)
		}
	}
	return looked
}

// P10.10: what is done with a copy leaves the convoy as it is, and the other way round.
func TestAlone(t *testing.T) {
	r := chance(7)
	for range 600 {
		c, m := anyConvoy(t, r)
		drive(r, c, m)
		d := c.Copy()
		before := stateOf(c)
		checkSame(t, "a copy", stateOf(d), before)
		n := *m
		n.plan, n.things, n.closures = clonePlan(m.plan), slices.Clone(m.things), slices.Clone(m.closures)
		one, model := pick(r, d, c), &n
		drive(r, one, model)
		one.Adopt(anyAdoption(r, one, model))
		kept := stateOf(one)
		plan, planErr := replan(one)
		other := c
		if one == c {
			other = d
		}
		checkSame(t, "the other one", stateOf(other), before)
		want, wantErr := m.replan()
		p, e := replan(other)
		check(t, "Replan", p, e, want, wantErr)
		for range 5 {
			x := anyReport(r, m)
			if want := m.error(x); want == api.OK {
				got, e := other.Report(x)
				check(t, "Report", got, e, m.report(x), api.OK)
			} else {
				got, e := other.Report(x)
				check(t, "Report", got, e, nil, want)
			}
		}
		checkSame(t, "the other one", stateOf(other), m.state())
		checkSame(t, "the one", stateOf(one), kept)
		p, e = replan(one)
		check(t, "Replan of the one", p, e, plan, planErr)
	}
}
