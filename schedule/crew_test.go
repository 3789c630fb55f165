package schedule_test

import (
	"math"
	"slices"
	"testing"

	"gooseneck/api"
	"gooseneck/schedule"
)

// leg returns a leg, and legs n legs that are all the same.
func leg(minutes int64, w []api.Window) api.Leg { return api.Leg{Minutes: minutes, Windows: w} }

func legs(n int, l api.Leg) []api.Leg { return slices.Repeat([]api.Leg{l}, n) }

// threeLegs are the legs of the chapter's examples.
func threeLegs() []api.Leg { return legs(3, leg(100, window(0, 1000))) }

// P9.8: what is wrong with a crew.
func TestCrewErrors(t *testing.T) {
	long := window(0, 1<<40)
	for _, x := range []struct {
		what        string
		legs        []api.Leg
		most, rest  int64
		start, want int64
	}{
		{"the example", threeLegs(), 200, 300, 0, 0},
		{"12 legs", legs(12, leg(1, long)), 12, 1, 0, 0},
		{"13 legs", legs(13, leg(-1, window(5, 5))), 0, 0, -1, 6},
		{"32 windows", legs(1, leg(1, manyWindows(32))), 1, 1, 0, 0},
		{"33 windows", legs(2, leg(-1, make([]api.Window, 33))), 0, 0, -1, 6},
		{"33 windows of the last leg", append(legs(2, leg(-1, nil)), leg(1, manyWindows(33))), 0, 0, -1, 6},
		{"a leg of no minutes", append(threeLegs(), leg(0, long)), 200, 300, -1, 2},
		{"a leg of as much as it may be", threeLegs(), 100, 300, 0, 0},
		{"too long a leg", threeLegs(), 99, 300, -1, 2},
		{"wrong windows", append(threeLegs(), leg(1, window(5, 5))), 200, 300, -1, 2},
		{"most of 0", nil, 0, 300, -1, 2},
		{"most of 1", nil, 1, 300, 0, 0},
		{"most of 10,080", legs(1, leg(10080, long)), 10080, 300, 0, 0},
		{"most of 10,081", nil, 10081, 300, -1, 2},
		{"a leg of 10,081", legs(1, leg(10081, long)), 10081, 300, -1, 2},
		{"a rest of 0", nil, 200, 0, -1, 2},
		{"a rest of 1", nil, 200, 1, 0, 0},
		{"a rest of 10,080", nil, 200, 10080, 0, 0},
		{"a rest of 10,081", nil, 200, 10081, -1, 2},
		{"the greatest numbers", threeLegs(), math.MaxInt64, math.MaxInt64, 0, 2},
		{"the least numbers", threeLegs(), math.MinInt64, math.MinInt64, 0, 2},
		{"a start below 0", threeLegs(), 200, 300, -1, 3},
		{"the greatest start", nil, 200, 300, 1 << 40, 0},
		{"too great a start", threeLegs(), 200, 300, 1<<40 + 1, 3},
	} {
		want := api.Errno(x.want)
		l, e := schedule.Crew(x.legs, x.most, x.rest, x.start)
		checkErr(t, "Crew: "+x.what, e, want)
		if e == api.OK {
			want = api.ErrEqual
		}
		i, e := schedule.CheckCrew(x.legs, x.most, x.rest, x.start, append(l, 0))
		check(t, "CheckCrew: "+x.what, i, e, 0, want)
	}
	_, e := schedule.CheckCrew(threeLegs(), 200, 300, 0, []int64{0, 100})
	checkErr(t, "a start too few", e, api.ErrEqual)
	_, e = schedule.CheckCrew(threeLegs(), 200, 300, 0, nil)
	checkErr(t, "no starts", e, api.ErrEqual)
}

// P9.8
func TestCheckCrew(t *testing.T) {
	four := []api.Leg{leg(100, window(0, 1000)), leg(50, twoWindows()), leg(100, window(0, 2000)), leg(60, window(1000, 3000))}
	for _, x := range []struct {
		what   string
		legs   []api.Leg
		start  int64
		starts []int64
		want   int
		e      api.Errno
	}{
		{"the example", threeLegs(), 0, []int64{0, 100, 500}, 0, api.OK},
		{"no legs", nil, 0, nil, 0, api.OK},
		{"just in time", threeLegs(), 7, []int64{7, 107, 507}, 0, api.OK},
		{"a rest between the first legs", threeLegs(), 0, []int64{0, 400, 500}, 0, api.OK},
		{"rests between all", threeLegs(), 0, []int64{0, 400, 900}, 0, api.OK},
		{"a rest that is too short by a minute", threeLegs(), 0, []int64{0, 100, 499}, 2, api.ErrHave},
		{"gaps that are no rests", threeLegs(), 0, []int64{0, 399, 798}, 2, api.ErrHave},
		{"a time before the start is no rest", threeLegs(), 0, []int64{600, 700, 800}, 2, api.ErrHave},
		{"a leg before the start", threeLegs(), 1, []int64{0, 100, 500}, 0, api.ErrRule},
		{"a leg before the end of another one", threeLegs(), 0, []int64{0, 99, 500}, 1, api.ErrRule},
		{"a leg before another one", threeLegs(), 0, []int64{500, 600, 0}, 2, api.ErrRule},
		{"a leg that does not fit", threeLegs(), 0, []int64{0, 100, 901}, 2, api.ErrRule},
		{"what does not fit before what is too much", threeLegs(), 0, []int64{0, 100, 200}, 2, api.ErrHave},
		{"a leg after too much that does not fit", append(threeLegs(), leg(1, nil)), 0, []int64{0, 100, 200, 300}, 3, api.ErrRule},
		{"four legs", four, 0, []int64{0, 1000, 1050, 1450}, 0, api.OK},
		{"four legs, of which the last is too much", four, 0, []int64{0, 1000, 1050, 1449}, 3, api.ErrHave},
		{"the first leg that is too much", four, 0, []int64{900, 1000, 1050, 1449}, 2, api.ErrHave},
		{"a start below 0", threeLegs(), 0, []int64{-1, 100, 500}, 0, api.ErrRule},
		{"a start of -1 where nothing fits", legs(1, leg(1, nil)), 0, []int64{-1}, 0, api.ErrRule},
		{"the least start", threeLegs(), 0, []int64{0, math.MinInt64, 500}, 1, api.ErrRule},
		{"the greatest start", threeLegs(), 0, []int64{math.MaxInt64, math.MinInt64, 500}, 0, api.ErrRule},
	} {
		got, e := schedule.CheckCrew(x.legs, 200, 300, x.start, x.starts)
		check(t, x.what, got, e, x.want, x.e)
	}
}

// P9.8
func TestCrew(t *testing.T) {
	all := window(0, 5000)
	tie := []api.Leg{leg(100, all), leg(100, all), leg(100, window(2000, 5000))}
	early := []api.Leg{leg(100, slices.Concat(window(0, 100), window(300, 500))), leg(100, window(600, 800)), leg(100, window(700, 2000))}
	twice := []api.Leg{leg(150, all), leg(100, all), leg(100, all), leg(100, all)}
	for _, x := range []struct {
		what  string
		legs  []api.Leg
		start int64
		want  []int64
		e     api.Errno
	}{
		{"the example", threeLegs(), 0, []int64{0, 100, 500}, api.OK},
		{"no legs", nil, 5, nil, api.OK},
		{"one leg", legs(1, leg(200, all)), 5, []int64{5}, api.OK},
		{"no windows", legs(1, leg(200, nil)), 5, nil, api.ErrPlan},
		{"later", threeLegs(), 400, []int64{400, 500, 900}, api.OK},
		{"too late for the last leg", threeLegs(), 401, nil, api.ErrPlan},
		{"a window that is a rest", tie, 0, []int64{0, 100, 2000}, api.OK},
		{"a window that is a rest, just so", tie, 1500, []int64{1500, 1600, 2000}, api.OK},
		{"a window that is just no rest", tie, 1501, []int64{1501, 1601, 2001}, api.OK},
		{"a rest that is longer than the wait for a window", early, 1, []int64{300, 700, 800}, api.OK},
		{"the first leg earlier", early, 0, []int64{0, 600, 700}, api.OK},
		{"two rests, the first one early", twice, 0, []int64{0, 450, 550, 950}, api.OK},
	} {
		got, e := schedule.Crew(x.legs, 200, 300, x.start)
		check(t, x.what, got, e, x.want, x.e)
	}
	got, e := schedule.Crew(threeLegs(), 100, 350, 0)
	check(t, "two rests", got, e, []int64{0, 450, 900}, api.OK)
	got, e = schedule.Crew(threeLegs(), 100, 351, 0)
	check(t, "two rests that are too long", got, e, nil, api.ErrPlan)
	got, e = schedule.Crew(threeLegs(), 300, 10080, 0)
	check(t, "no rests", got, e, []int64{0, 100, 200}, api.OK)
}

// P9.8: of times that end as soon, those come first of which the first start that differs is the least one: a rest is then as
// late as it can be.
func TestCrewFirst(t *testing.T) {
	all := window(0, 5000)
	got, e := schedule.Crew(legs(4, leg(100, all)), 300, 300, 0)
	check(t, "a rest in one of three gaps", got, e, []int64{0, 100, 200, 600}, api.OK)
	waits := append(legs(3, leg(100, all)), leg(100, slices.Concat(window(0, 200), window(1000, 5000))))
	got, e = schedule.Crew(waits, 200, 300, 0)
	check(t, "a rest that is a window anyway", got, e, []int64{0, 100, 500, 1000}, api.OK)
}

// P9.8, P9.13: for any crew, all its times are looked at.
func TestCrewAny(t *testing.T) {
	r := chance(9)
	count := map[string]int{}
	for range 6000 {
		l, most, rest := anyCrew(r, 4, small)
		start := from(r, 0, 4)
		want, wantErr := crewOf(l, most, rest, start, soon)
		got, e := schedule.Crew(l, most, rest, start)
		check(t, shown([]any{l, most, rest, start}), got, e, want, wantErr)
		if e != api.OK {
			count["none"]++
			continue
		}
		count["some"]++
		if i, e := schedule.CheckCrew(l, most, rest, start, got); i != 0 || e != api.OK {
			t.Errorf("%v is not allowed: %d, %d", got, i, e)
		}
		if free, _ := schedule.Crew(l, 10080, rest, start); len(l) > 1 && shown(free) != shown(got) {
			count["rests"]++
		}
	}
	if len(count) < 3 || slices.Min([]int{count["none"], count["some"], count["rests"]}) < 100 {
		t.Errorf("too few of a kind: %v", count)
	}
}

// P9.8: any times.
func TestCheckCrewAny(t *testing.T) {
	r := chance(10)
	count := map[api.Errno]int{}
	for range 20000 {
		l, most, rest := anyCrew(r, 4, small)
		start := from(r, 0, 3)
		starts, at := []int64{}, start-from(r, 0, 1)
		for _, one := range l {
			at += from(r, 0, 3) * from(r, 0, 2)
			starts = append(starts, at)
			at += one.Minutes - max(0, from(r, 0, 9)-8)
		}
		want, wantErr := checkCrewOf(l, most, rest, start, starts)
		got, e := schedule.CheckCrew(l, most, rest, start, starts)
		check(t, shown(starts), got, e, want, wantErr)
		count[e]++
	}
	if slices.Min([]int{count[api.OK], count[api.ErrRule], count[api.ErrHave]}) < 300 {
		t.Errorf("too few of an error: %v", count)
	}
}

// P9.8, P1: a crew with as many legs as can be, each with as many windows, is planned in time.
func TestCrewLongest(t *testing.T) {
	got, e := schedule.Crew(legs(12, leg(5, manyWindows(32))), 25, 100, 0)
	check(t, "12 legs", got, e, []int64{0, 5, 20, 25, 40, 145, 160, 165, 180, 185, 300, 305}, api.OK)
}
