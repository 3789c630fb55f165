package schedule_test

import (
	"math/rand/v2"
	"slices"
	"testing"

	"gooseneck/api"
	"gooseneck/schedule"
)

// middle are jobs of which all orders can be looked at, but not all plans.
var middle = extent{9, 16, 3, 6, 60, 900}

// laterPlan returns a plan that is right for an order, and has some starts that are not the earliest ones; nil if it comes to
// none.
func laterPlan(r *rand.Rand, j api.Job, order [][]int) []int64 {
	j = clone(j)
	for range 1 + r.IntN(3) {
		i := r.IntN(len(j.Tasks))
		if w := j.Tasks[i].Windows; len(w) > 0 {
			n := r.IntN(len(w))
			w[n].From += from(r, 0, w[n].To-w[n].From-1)
			j.Tasks[i].Windows = w[n:]
		}
	}
	starts, _ := schedule.Earliest(j, order)
	return starts
}

// P9.9: plans that are right for an order, and later than the earliest one.
func TestNoneIsEarlier(t *testing.T) {
	r := chance(11)
	later := 0
	for range 4000 {
		j := anyJob(r, pick(r, middle, large))
		order := anyOrder(r, j)
		p := laterPlan(r, j, order)
		if p == nil {
			continue
		}
		i, e := schedule.CheckPlan(j, order, p)
		check(t, "a later plan", i, e, 0, api.OK)
		earliest := must[[]int64](t, "Earliest")(schedule.Earliest(j, order))
		i, e = schedule.CheckPlan(j, order, earliest)
		check(t, "the earliest plan", i, e, 0, api.OK)
		for i := range p {
			if p[i] < earliest[i] {
				t.Fatalf("%v is earlier than %v in %v", p, earliest, j)
			}
		}
		if !slices.Equal(p, earliest) {
			later++
		}
	}
	if later < 300 {
		t.Errorf("only %d are later", later)
	}
}

// P9.10: where Earliest returns ErrPlan, a circle or a proof shows that there is no plan, and is accepted.
func TestNoPlanIsProved(t *testing.T) {
	r := chance(12)
	circles, proofs := 0, 0
	for range 3000 {
		j := anyJob(r, pick(r, small, middle, large))
		order := anyOrder(r, j)
		_, none := schedule.Earliest(j, order)
		l, e := schedule.Circle(j, order)
		if e == api.OK {
			checkErr(t, "CheckCircle", schedule.CheckCircle(j, order, l), api.OK)
			checkErr(t, "Earliest, in spite of a circle", none, api.ErrPlan)
			circles++
			continue
		}
		why := must[[]api.Reason](t, "Why")(schedule.Why(j, order, r.IntN(len(j.Tasks))))
		checkErr(t, "CheckWhy", schedule.CheckWhy(j, order, why), api.OK)
		if isProof := why[len(why)-1].Start == -1; isProof != (none == api.ErrPlan) {
			t.Errorf("%v, but Earliest returns %d", why, none)
		} else if isProof {
			proofs++
		}
	}
	if circles < 300 || proofs < 300 {
		t.Errorf("%d circles, %d proofs", circles, proofs)
	}
}

// P9.11: of small jobs, all plans that are right for any order are right for OrderOf, and others are not; many tasks begin at
// the same time, and take no time.
func TestRightForOrderOf(t *testing.T) {
	r := chance(13)
	right, equal := 0, 0
	for range 300 {
		j := anyJob(r, extent{4, 2, 2, 2, 1, 4})
		plans := plansOf(j, 9)
		isRight := map[string]bool{}
		for _, order := range ordersOf(j) {
			for _, p := range rightOf(plans, linksOf(j, order)) {
				isRight[shown(p)] = true
			}
		}
		for _, p := range plans {
			order := must[[][]int](t, "OrderOf")(schedule.OrderOf(j, p))
			checkErr(t, "CheckOrder", schedule.CheckOrder(j, order), api.OK)
			if _, e := schedule.CheckPlan(j, order, p); isRight[shown(p)] != (e == api.OK) {
				t.Fatalf("%v: %d for the order %v of %v", p, e, order, j)
			}
			if isRight[shown(p)] {
				right++
			}
			for _, list := range order {
				for k := range list {
					if k > 0 && isRight[shown(p)] && p[list[k]] == p[list[k-1]] {
						equal++
					}
				}
			}
		}
	}
	if right < 1000 || equal < 300 {
		t.Errorf("%d right, with %d equal starts", right, equal)
	}
}

// P9.12: no plan that is right for any order ends before that of Best, which ends when it says.
func TestNoneEndsSooner(t *testing.T) {
	r := chance(14)
	compared, sooner := 0, 0
	for range 1200 {
		j := anyJob(r, middle)
		order, starts, end, e := schedule.Best(j)
		other := anyOrder(r, j)
		p := laterPlan(r, j, other)
		if e != api.OK {
			if p != nil && e != api.ErrMany {
				t.Fatalf("%v is right, but there is no best: %d", p, e)
			}
			continue
		}
		i, e := schedule.CheckPlan(j, order, starts)
		check(t, "CheckPlan", i, e, 0, api.OK)
		if end != endOf(j, starts) {
			t.Errorf("%v does not end at %d", starts, end)
		}
		if p == nil {
			continue
		}
		compared++
		if endOf(j, p) < end {
			t.Errorf("%v ends before %d in %v", p, end, j)
		}
		if endOf(j, p) > end {
			sooner++
		}
	}
	if compared < 300 || sooner < 200 {
		t.Errorf("%d compared, of which %d end later", compared, sooner)
	}
}

// P9.13: with a greater most, a lesser rest, or an earlier start, a crew does not end later.
func TestCrewIsNotLater(t *testing.T) {
	r := chance(15)
	some, sooner := 0, 0
	for range 3000 {
		l, most, rest := anyCrew(r, pick(r, 4, 12), extent{windows: 8, minutes: 40, time: 900})
		start := from(r, 0, 100)
		times, e := schedule.Crew(l, most, rest, start)
		if e != api.OK || len(l) == 0 {
			continue
		}
		i, e := schedule.CheckCrew(l, most, rest, start, times)
		check(t, "CheckCrew", i, e, 0, api.OK)
		for _, x := range [][3]int64{{from(r, most, 10080), rest, start}, {most, from(r, 1, rest), start}, {most, rest, from(r, 0, start)}} {
			other := must[[]int64](t, "Crew")(schedule.Crew(l, x[0], x[1], x[2]))
			last := len(l) - 1
			if other[last] > times[last] {
				t.Fatalf("%v ends later than %v, with %v for %d, %d, %d", other, times, x, most, rest, start)
			}
			some++
			if other[last] < times[last] {
				sooner++
			}
		}
	}
	if some < 1000 || sooner < 100 {
		t.Errorf("%d compared, %d sooner", some, sooner)
	}
}

// wider returns a job with a wider window, a lesser lag, or without a link.
func wider(r *rand.Rand, j api.Job) api.Job {
	j = clone(j)
	w := j.Tasks[r.IntN(len(j.Tasks))].Windows
	switch k := r.IntN(max(1, len(j.Afters))); {
	case len(j.Afters) > 0 && r.IntN(3) == 0:
		j.Afters[k].Lag -= from(r, 0, 20)
	case len(j.Afters) > 0 && r.IntN(2) == 0:
		j.Afters = slices.Delete(j.Afters, k, k+1)
	case len(w) > 0:
		i := r.IntN(len(w))
		begin, end := int64(0), int64(1<<40)
		if i > 0 {
			begin = w[i-1].To
		}
		if i < len(w)-1 {
			end = w[i+1].From
		}
		w[i].From, w[i].To = from(r, begin, w[i].From), from(r, w[i].To, end)
	}
	return j
}

// P9.14
func TestWiderIsNotLater(t *testing.T) {
	r := chance(16)
	some, sooner := 0, 0
	for range 6000 {
		j := anyJob(r, pick(r, small, middle, large))
		order := anyOrder(r, j)
		starts, e := schedule.Earliest(j, order)
		if e != api.OK {
			continue
		}
		other := wider(r, j)
		some++
		starts2, e := schedule.Earliest(other, order)
		for i := range starts {
			if e != api.OK || starts2[i] > starts[i] {
				t.Fatalf("%v is later than %v: %v, %v", starts2, starts, other, j)
			}
		}
		if !slices.Equal(starts, starts2) {
			sooner++
		}
	}
	if some < 1000 || sooner < 150 {
		t.Errorf("%d compared, %d sooner", some, sooner)
	}
}
