package sweep_test

import (
	"math"
	"slices"
	"testing"

	"gooseneck/api"
	"gooseneck/sweep"
)

// towards returns a family on the X axis, towards an obstacle at 5,000: the clearance of a guide is 5,000 less the
// greatest X to which it comes.
func towards(margin int64, rows ...[]int64) api.Family {
	f := family(example())
	f.Margin, f.Obstacles = margin, []api.Obstacle{obstacle(0, 9, pt(5000, 0))}
	for _, row := range rows {
		var l []api.Choice
		for _, x := range row {
			l = append(l, to(x, 0))
		}
		f.Rows = append(f.Rows, l)
	}
	return f
}

func three(margin int64) api.Family {
	return towards(margin, []int64{4000, 2000, 2500}, []int64{3000, 1000, 3500})
}

// checkGuides reports what comes of the guides of a family, if it is not as it should be.
func checkGuides(t *testing.T, what string, f api.Family, want judged) {
	t.Helper()
	bestErr, proofErr := api.OK, api.ErrPlan
	if len(want.passable) == 0 {
		bestErr, proofErr = api.ErrPlan, api.OK
	} else {
		want.hits = nil
	}
	passable, e := sweep.Passable(f)
	check(t, what+": Passable", passable, e, want.passable, api.OK)
	best, clearance, e := sweep.Best(f)
	check(t, what+": Best", best, e, want.best, bestErr)
	check(t, what+": its clearance", clearance, e, want.clearance, bestErr)
	hits, e := sweep.Prove(f)
	check(t, what+": Prove", hits, e, want.hits, proofErr)
}

// P5.6, P5.7
func TestGuides(t *testing.T) {
	high := three(size)
	high.Obstacles[0].Low, high.Obstacles[0].High = 1001, 2000
	low := three(1999)
	low.Obstacles = append(low.Obstacles, obstacle(0, 9, pt(-500, 2500)))
	under := three(1999)
	under.Obstacles = append(under.Obstacles, obstacle(0, 9, pt(-500, 2499)))
	backed := towards(0, []int64{1000, 2000})
	backed.Rows[0][0].Back = true
	none := towards(3000, []int64{1500, 2500, 1900}, []int64{2000})
	none.Rows[0][0].Back = true
	for _, x := range []struct {
		what string
		f    api.Family
		want judged
	}{
		{"the example", simple(), judged{[][]int{{0}}, []int{0}, 200, nil}},
		{"all of them", three(999), judged{guidesOf(three(0)), []int{1, 1}, 3000, nil}},
		{"some of them", three(1999), judged{[][]int{{1, 0}, {1, 1}, {2, 0}, {2, 1}}, []int{1, 1}, 3000, nil}},
		{"two of them", three(2000), judged{[][]int{{1, 1}, {2, 1}}, []int{1, 1}, 3000, nil}},
		{"one of them", three(2999), judged{[][]int{{1, 1}}, []int{1, 1}, 3000, nil}},
		{"none, in the first row", three(3000), judged{hits: []api.Hit{met(3, 0, 0, 0), met(3, 0, 0, 1), met(3, 0, 0, 2)}}},
		{"none, in both rows", towards(2000, []int64{4000, 2000, 2500}, []int64{3000, 3500}), judged{
			hits: []api.Hit{met(5, 0, 0, 0), met(1, 0, 0, 1, 0), met(1, 0, 0, 1, 1), met(0, 0, 0, 2, 0), met(0, 0, 0, 2, 1)},
		}},
		{"of equal ones the first", towards(0, []int64{4000, 3000, 2000}, []int64{4000, 3000}), judged{
			guidesOf(towards(0, []int64{1, 1, 1}, []int64{1, 1})), []int{1, 1}, 2000, nil,
		}},
		{"the start has less than the guides", low, judged{[][]int{{1, 0}, {1, 1}, {2, 0}, {2, 1}}, []int{1, 0}, 2000, nil}},
		{"the start is blocked", under, judged{hits: []api.Hit{met(0, 0, 1, 0), met(0, 0, 1, 1), met(0, 0, 1, 2)}}},
		{"nothing is level", high, judged{guidesOf(three(0)), []int{0, 0}, 1 << 26, nil}},
		{"one that cannot be driven", backed, judged{[][]int{{1}}, []int{1}, 3000, nil}},
		{"some that cannot be driven, and others", none, judged{hits: []api.Hit{stuck(0, 0), met(3, 0, 0, 1), met(0, 0, 0, 2, 0)}}},
	} {
		checkGuides(t, x.what+", the oracle", x.f, judgedOf(t, x.f))
		checkGuides(t, x.what, x.f, x.want)
	}
}

// P5.6, P5.7
func TestErrorsOfGuides(t *testing.T) {
	many := three(0)
	many.Rows = make([][]api.Choice, 9)
	for _, x := range []struct {
		f    api.Family
		want api.Errno
	}{{many, api.ErrMany}, {api.Family{}, api.ErrArg}, {three(-1), api.ErrArg}} {
		l, e := sweep.Passable(x.f)
		check(t, "Passable", l, e, nil, x.want)
		best, n, e := sweep.Best(x.f)
		check(t, "Best", best, e, nil, x.want)
		check(t, "Best: clearance", n, e, 0, x.want)
		hits, e := sweep.Prove(x.f)
		check(t, "Prove", hits, e, nil, x.want)
		checkErr(t, "CheckProof", sweep.CheckProof(x.f, make([]api.Hit, 4097)), x.want)
	}
}

// P5.7
func TestCheckProof(t *testing.T) {
	f := towards(2000, []int64{4000, 2000, 2500}, []int64{3000, 3500})
	good := []api.Hit{met(5, 0, 0, 0), met(1, 0, 0, 1, 0), met(1, 0, 0, 1, 1), met(0, 0, 0, 2, 0), met(0, 0, 0, 2, 1)}
	with := func(i int, h api.Hit) []api.Hit {
		l := slices.Clone(good)
		l[i] = h
		return l
	}
	reversed := slices.Clone(good)
	slices.Reverse(reversed)
	for _, x := range []struct {
		what string
		l    []api.Hit
		want api.Errno
	}{
		{"the proof", good, api.OK},
		{"in any order", reversed, api.OK},
		{"with some of them again", slices.Concat(good, reversed[2:4], good), api.OK},
		{"as many as there may be", slices.Repeat(good, 820)[:4096], api.OK},
		{"too many", slices.Repeat(good, 820)[:4097], api.ErrMany},
		{"too many that are wrong", make([]api.Hit, 4097), api.ErrMany},
		{"none", nil, api.ErrSum},
		{"without the first one", good[1:], api.ErrSum},
		{"without the last one", good[:4], api.ErrSum},
		{"one of them again for another one", with(2, good[1]), api.ErrSum},
		{"an earlier step", with(0, met(4, 0, 0, 0)), api.ErrSum},
		{"a later step", with(0, met(6, 0, 0, 0)), api.ErrSum},
		{"a step below 0", with(0, met(math.MinInt64, 0, 0, 0)), api.ErrSum},
		{"another section", with(0, met(5, 1, 0, 0)), api.ErrSum},
		{"another obstacle", with(0, met(5, 0, 1, 0)), api.ErrSum},
		{"a stuck one", with(0, stuck(5, 0)), api.ErrSum},
		{"longer ones", append([]api.Hit{met(0, 0, 0, 0, 0), met(0, 0, 0, 0, 1)}, good[1:]...), api.ErrSum},
		{"longer ones beside it", append([]api.Hit{met(0, 0, 0, 0, 0), met(0, 0, 0, 0, 1)}, good...), api.ErrSum},
		{"a shorter one", []api.Hit{good[0], met(1, 0, 0, 1), good[3], good[4]}, api.ErrSum},
		{"a beginning that is not blocked beside it", append(slices.Clone(good), met(3, 0, 0, 1)), api.ErrSum},
		{"no choices beside it", append(slices.Clone(good), met(0, 0, 0)), api.ErrSum},
		{"a choice that is not there beside it", append(slices.Clone(good), met(0, 0, 0, 3)), api.ErrSum},
		{"a choice below 0 beside it", append(slices.Clone(good), met(0, 0, 0, math.MinInt64)), api.ErrSum},
		{"too many choices beside it", append(slices.Clone(good), met(0, 0, 0, 2, 1, 0)), api.ErrSum},
		{"another hit of the same choices beside it", append(slices.Clone(good), met(5, 0, 1, 0)), api.ErrSum},
	} {
		before := shown(x.l)
		checkErr(t, x.what, sweep.CheckProof(f, x.l), x.want)
		if shown(x.l) != before {
			t.Errorf("%s: CheckProof has changed the proof", x.what)
		}
	}
	last := towards(2000, []int64{4000, 1000})
	for _, l := range [][]api.Hit{nil, good, {met(5, 0, 0, 0)}, {met(5, 0, 0, 0), met(0, 0, 0, 1)}, {met(5, 0, 0, 0), stuck(0, 1)}} {
		checkErr(t, "a guide is passable", sweep.CheckProof(three(1000), l), api.ErrSum)
		checkErr(t, "only the last guide is passable", sweep.CheckProof(last, l), api.ErrSum)
	}
}

// P5.6, P5.7: as many guides as there may be.
func TestManyGuides(t *testing.T) {
	row := []int64{100, 200, 300, 400}
	f := towards(0, row, row, row, row, row, row, []int64{250}, []int64{350})
	passable, e := sweep.Passable(f)
	if len(passable) != 4096 || e != api.OK || !slices.IsSortedFunc(passable, slices.Compare[[]int]) {
		t.Errorf("Passable: %d guides, %d", len(passable), e)
	}
	best, n, e := sweep.Best(f)
	check(t, "Best", best, e, make([]int, 8), api.OK)
	check(t, "its clearance", n, e, 4650, api.OK)
	f.Margin = 4650
	hits, e := sweep.Prove(f)
	// A beginning with 400 is blocked there, in its last step; all others in the last piece.
	want := 0
	for n := range 6 {
		want += pow(3, n)
	}
	want += pow(3, 6)
	if len(hits) != want || e != api.OK {
		t.Errorf("Prove: %d hits, %d, want %d", len(hits), e, want)
	}
	checkErr(t, "CheckProof", sweep.CheckProof(f, hits), api.OK)
	f.Margin = 4600
	hits, e = sweep.Prove(f)
	check(t, "Prove with a lesser margin", hits, e, nil, api.ErrPlan)
}

func pow(n, k int) int {
	all := 1
	for range k {
		all *= n
	}
	return all
}

// P5.6, P5.7, P5.11, P5.12
func TestGuidesByChance(t *testing.T) {
	r := chance(5)
	seen := map[string]int{}
	for range 2000 {
		f := anyFamily(t, r)
		want := judgedOf(t, f)
		checkGuides(t, "by chance", f, want)
		switch {
		case len(want.passable) == 0:
			seen["none"]++
			checkAnyProof(t, f, want.hits, r.IntN(len(want.hits)))
		case want.clearance == 1<<26:
			seen["free"]++
		case shown(want.best) != shown(want.passable[0]):
			seen["a better one"]++
		default:
			seen["the first one"]++
		}
		if len(want.passable) > 0 {
			checkErr(t, "CheckProof of a passable family", sweep.CheckProof(f, want.hits), api.ErrSum)
		}
	}
	for _, what := range []string{"none", "free", "a better one", "the first one"} {
		if seen[what] < 50 {
			t.Errorf("the families are too much alike: %v", seen)
		}
	}
}

// checkAnyProof reports whether CheckProof takes a proof, and not one that is changed.
func checkAnyProof(t *testing.T, f api.Family, hits []api.Hit, i int) {
	t.Helper()
	checkErr(t, "CheckProof", sweep.CheckProof(f, hits), api.OK)
	checkErr(t, "CheckProof without a hit", sweep.CheckProof(f, slices.Delete(slices.Clone(hits), i, i+1)), api.ErrSum)
	for _, change := range []func(h *api.Hit){
		func(h *api.Hit) { h.Step++ },
		func(h *api.Hit) { h.Section++ },
		func(h *api.Hit) { h.Obstacle-- },
		func(h *api.Hit) { h.Choices = h.Choices[1:] },
		func(h *api.Hit) { h.Choices = append(slices.Clone(h.Choices), 0) },
	} {
		bad := slices.Clone(hits)
		change(&bad[i])
		checkErr(t, "CheckProof with another hit", sweep.CheckProof(f, bad), api.ErrSum)
	}
}
