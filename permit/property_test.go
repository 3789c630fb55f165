package permit_test

import (
	"math/rand/v2"
	"testing"

	"gooseneck/api"
	"gooseneck/permit"
)

// enough returns numbers of things that break no count of rules that do not contradict each other.
func enough(rules []api.Rule) []api.Count {
	var l []api.Count
	for _, thing := range thingsOf(rules) {
		n := api.Count{Thing: thing}
		for _, r := range rules {
			for _, c := range r.Counts {
				if c.Thing == thing {
					n.Least = max(n.Least, c.Least)
				}
			}
		}
		l = append(l, n)
	}
	return l
}

// P8.10: what Next returns is a start with which a crossing, with things enough, breaks no condition; none before it is one.
func TestNoConditionIsBroken(t *testing.T) {
	r := chance(11)
	begun, late := 0, 0
	for range 2000 {
		l, trip, i, rules := anyPassage(r)
		begin := min(anyMinute(r), 1<<39)
		n, e := permit.Next(l, trip, i, begin)
		end := n
		if e != api.OK {
			end = begin + 400*day - begin%day
			late++
		} else {
			begun++
			kind, _, _ := permit.Conflict(l, trip, i)
			if kind > 0 && kind < api.ConflictThing {
				t.Fatalf("%d, with a conflict %d", n, kind)
			}
			c := api.Crossing{Start: n, Things: enough(rules)}
			b, e := permit.Broken(l, trip, i, c)
			if e != api.OK || kind == 0 && len(b) > 0 {
				t.Fatalf("%v is broken by %v", b, c)
			}
		}
		for range 10 {
			if end == begin {
				break
			}
			c := api.Crossing{Start: from(r, max(begin, end-1-from(r, 0, 100000)), end-1), Things: enough(rules)}
			if b := must[[]int](t, "Broken")(permit.Broken(l, trip, i, c)); len(b) == 0 {
				t.Fatalf("%v breaks nothing, and is before %d", c, n)
			}
		}
	}
	if begun < 500 || late < 200 {
		t.Errorf("%d begun, %d late", begun, late)
	}
}

// P8.10: all minutes that Windows returns are allowed, and those around them are not.
func TestWindowsAreAllowed(t *testing.T) {
	r := chance(12)
	found := 0
	for range 300 {
		l, trip, i, _ := anyPassage(r)
		begin := min(anyMinute(r), 1<<39)
		end := begin + 14400
		w, _ := permit.Windows(l, trip, i, begin, end)
		isAllowed := func(at int64) bool { return must[bool](t, "Allowed")(permit.Allowed(l, trip, i, at)) }
		for _, x := range w {
			found++
			if x.From < begin || x.To > end || x.From > begin && isAllowed(x.From-1) || x.To < end && isAllowed(x.To) {
				t.Fatalf("%v is not a longest window from %d to %d", x, begin, end)
			}
			for at := x.From; at < x.To; at += from(r, 1, 50) {
				if !isAllowed(at) {
					t.Fatalf("%d of %v is not allowed", at, x)
				}
			}
		}
	}
	if found < 300 {
		t.Errorf("only %d windows", found)
	}
}

// P8.11: if there is no conflict, there is a minute within 2,555 days at which the passage is allowed, and numbers of things
// that break nothing.
func TestNoConflict(t *testing.T) {
	r := chance(13)
	free, far := 0, 0
	for range 10000 {
		l, trip, i, rules := anyPassage(r)
		if kind, _, _ := permit.Conflict(l, trip, i); kind != 0 {
			continue
		}
		free++
		trip.Passages[i].Minutes = 1
		begin := anyMinute(r)
		at, e := permit.Next(l, trip, i, begin)
		for days := int64(400); e == api.ErrLate && days < 2555; days += 400 {
			far++
			at, e = permit.Next(l, trip, i, begin-begin%day+days*day)
		}
		if e != api.OK || at >= begin+2555*day {
			t.Fatalf("%v allows nothing within 2555 days: %d, %d", rules, at, e)
		}
		b := must[[]int](t, "Broken")(permit.Broken(l, trip, i, api.Crossing{Start: min(at, 1<<40), Things: enough(rules)}))
		if len(b) > 0 && at <= 1<<40 {
			t.Fatalf("%v are broken at %d", b, at)
		}
	}
	if free < 500 || far < 5 {
		t.Errorf("%d without a conflict, %d times far away", free, far)
	}
}

// grown returns a list and a trip with more rules, or with greater sizes.
func grown(r *rand.Rand, l []api.Authority, t api.Trip) ([]api.Authority, api.Trip) {
	l, t = clone(l), cloneTrip(t)
	if r.IntN(2) == 0 {
		for i := range t.Sizes {
			t.Sizes[i] += from(r, 0, 3)
		}
		return l, t
	}
	for i := range l {
		l[i].Rules = append(l[i].Rules, anyAuthority(r, "a", 2).Rules...)
		r.Shuffle(len(l[i].Rules), func(a, b int) { l[i].Rules[a], l[i].Rules[b] = l[i].Rules[b], l[i].Rules[a] })
	}
	return l, t
}

// P8.12: with more rules, or greater sizes, nothing is allowed that was not; the fee and the conditions do not become fewer; a
// conflict does not go away.
func TestMoreRules(t *testing.T) {
	r := chance(14)
	less, more := 0, 0
	for range 3000 {
		l, trip, i, _ := anyPassage(r)
		l2, trip2 := grown(r, l, trip)
		p, p2 := must[api.Permit](t, "Compile")(permit.Compile(l, trip)), must[api.Permit](t, "Compile")(permit.Compile(l2, trip2))
		if p2.Fee < p.Fee || len(p2.Conditions) < len(p.Conditions) || p2.Notice != p.Notice {
			t.Fatalf("%v, and with more %v", p, p2)
		}
		at := anyMinute(r)
		ok, ok2 := must[bool](t, "Allowed")(permit.Allowed(l, trip, i, at)), must[bool](t, "Allowed")(permit.Allowed(l2, trip2, i, at))
		if ok2 && !ok {
			t.Fatalf("%d is allowed only with more", at)
		}
		if ok && !ok2 {
			less++
		}
		n, e := permit.Next(l, trip, i, at)
		n2, e2 := permit.Next(l2, trip2, i, at)
		if e2 == api.OK && (e != api.OK || n2 < n) {
			t.Fatalf("%d, %d, and with more %d", n, e, n2)
		}
		kind, _, _ := permit.Conflict(l, trip, i)
		kind2, _, _ := permit.Conflict(l2, trip2, i)
		if kind != 0 && kind2 == 0 {
			t.Fatalf("the conflict %d goes away", kind)
		}
		if kind == 0 && kind2 != 0 {
			more++
		}
		c := api.Crossing{Start: at, Things: anyThings(r)}
		b, b2 := must[[]int](t, "Broken")(permit.Broken(l, trip, i, c)), must[[]int](t, "Broken")(permit.Broken(l2, trip2, i, c))
		if len(b2) < len(b) {
			t.Fatalf("%v are broken, and with more %v", b, b2)
		}
	}
	if less < 100 || more < 100 {
		t.Errorf("%d times less was allowed, %d times there was a conflict more", less, more)
	}
}
