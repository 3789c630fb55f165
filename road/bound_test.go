package road_test

import (
	"math/rand/v2"
	"slices"
	"testing"

	"gooseneck/api"
	"gooseneck/road"
)

// share returns a share for the width.
func share(work, road int, part int64) api.Share {
	return api.Share{Work: work, Road: road, Measure: api.MeasureWidth, Part: part}
}

// threeNarrow returns a map of four narrow roads one after another; the last one cannot be made usable.
func threeNarrow(works ...api.Work) api.Map {
	return withWorks(cityMap(5, narrow(0, 1, 10, 1000), narrow(1, 2, 10, 1000), narrow(2, 3, 10, 1000), narrow(2, 4, 10, 1000)), works...)
}

// P7.5
func TestBound(t *testing.T) {
	for _, x := range []struct {
		what     string
		m        api.Map
		from, to int
		want     api.Bound
		e        api.Errno
	}{
		{"the example", example(), 0, 2, api.Bound{Shares: []api.Share{share(0, 1, 4), share(1, 2, 12)}, Places: []int64{0, 10, 24}}, api.OK},
		{"at most that of the end", example(), 0, 1, api.Bound{Shares: []api.Share{share(0, 1, 4), share(1, 2, 12)}, Places: []int64{0, 10, 10}}, api.OK},
		{"places that cannot be reached", example(), 1, 2, api.Bound{Shares: []api.Share{share(0, 1, 4), share(1, 2, 12)}, Places: []int64{14, 0, 14}}, api.OK},
		{"to itself", example(), 1, 1, api.Bound{Shares: []api.Share{share(0, 1, 4), share(1, 2, 12)}, Places: []int64{0, 0, 0}}, api.OK},
		{"the other way", example(), 2, 0, api.Bound{}, api.ErrPlan},
		{"a part is rounded down", threeNarrow(widen(4000, 11, 0, 1, 2)), 0, 3,
			api.Bound{Shares: []api.Share{share(0, 0, 3), share(0, 1, 3), share(0, 2, 3)}, Places: []int64{0, 13, 26, 39, 39}}, api.OK},
		{"a part of 0 is a share", threeNarrow(widen(4000, 2, 0, 1, 2)), 0, 3,
			api.Bound{Shares: []api.Share{share(0, 0, 0), share(0, 1, 0), share(0, 2, 0)}, Places: []int64{0, 10, 20, 30, 30}}, api.OK},
		{"a work that is not enough has none", threeNarrow(widen(3999, 8, 0, 1), widen(4000, 9, 0, 1, 2)), 0, 3,
			api.Bound{Shares: []api.Share{share(1, 0, 3), share(1, 1, 3), share(1, 2, 3)}, Places: []int64{0, 13, 26, 39, 39}}, api.OK},
		{"the least part of two works", threeNarrow(widen(4000, 8, 0, 1), widen(5000, 9, 0, 1, 2)), 0, 3,
			api.Bound{Shares: []api.Share{share(0, 0, 4), share(0, 1, 4), share(1, 0, 3), share(1, 1, 3), share(1, 2, 3)}, Places: []int64{0, 13, 26, 39, 39}}, api.OK},
		{"a road that is wide enough is no load", withWorks(cityMap(3, way(0, 1, 7), narrow(1, 2, 7, 1)), widen(4000, 9, 0, 1)), 0, 2,
			api.Bound{Shares: []api.Share{share(0, 1, 9)}, Places: []int64{0, 7, 23}}, api.OK},
	} {
		got, e := road.Bound(x.m, wide(4000), x.from, x.to)
		checkProof(t, x.what, got, e, x.want, x.e)
	}
}

// P7.5: a road that is blocked by two measures has two loads, and none if one of them stays.
func TestBoundOfTwoMeasures(t *testing.T) {
	m := withWorks(cityMap(3, narrow(0, 1, 10, 1000), narrow(1, 2, 10, 1000)), widen(4000, 6, 0, 1), api.Work{Roads: []int{0}, Limit: 9000, Cost: 5})
	m.Roads[0].Limit[api.MeasureHeight] = 2000
	high := api.Share{Work: 1, Road: 0, Measure: api.MeasureHeight, Part: 5}
	got, e := road.Bound(m, [6]int64{2500, 4000}, 0, 2)
	checkProof(t, "two loads", got, e, api.Bound{Shares: []api.Share{share(0, 0, 3), share(0, 1, 3), high}, Places: []int64{0, 18, 31}}, api.OK)
	m.Roads = append(m.Roads, way(0, 2, 20))
	m.Works = m.Works[:1]
	got, e = road.Bound(m, [6]int64{2500, 4000}, 0, 2)
	checkProof(t, "none", got, e, api.Bound{Shares: []api.Share{share(0, 1, 6)}, Places: []int64{0, 20, 20}}, api.OK)
}

// P7.5: maps and sizes of all kinds, against the words of the chapter.
func TestBoundAny(t *testing.T) {
	r := chance(5)
	kinds := map[int]int{}
	for range 2000 {
		m, size := anyMap(r, small), anySize(r)
		begin, end := r.IntN(m.Places), r.IntN(m.Places)
		want, wantErr := evenOf(m, size, begin, end)
		got, e := road.Bound(m, size, begin, end)
		checkProof(t, "any", got, e, want, wantErr)
		kinds[min(4, len(want.Shares))+10*int(wantErr)]++
	}
	for _, kind := range []int{0, 1, 2, 3, 4, 10 * int(api.ErrPlan)} {
		if kinds[kind] < 50 {
			t.Errorf("only %d times %d", kinds[kind], kind)
		}
	}
}

// P7.5
func TestCheckBound(t *testing.T) {
	right := []api.Share{share(0, 1, 4), share(1, 2, 12)}
	for _, x := range []struct {
		what   string
		shares []api.Share
		places []int64
		want   int64
		e      api.Errno
	}{
		{"the example", right, []int64{0, 10, 24}, 24, api.OK},
		{"in another order", []api.Share{right[1], right[0]}, []int64{0, 10, 24}, 24, api.OK},
		{"numbers below 0", right, []int64{-30, -20, -6}, 24, api.OK},
		{"less than could be", right, []int64{0, 9, 23}, 23, api.OK},
		{"nothing", nil, []int64{0, 0, 0}, 0, api.OK},
		{"less than nothing", nil, []int64{0, 0, -7}, -7, api.OK},
		{"no shares", nil, []int64{0, 5, 15}, 15, api.OK},
		{"no shares, and too much", nil, []int64{0, 5, 16}, 0, api.ErrSum},
		{"one share", right[:1], []int64{0, 1, 15}, 15, api.OK},
		{"one share, and too much over the other road", right[:1], []int64{0, 10, 16}, 0, api.ErrSum},
		{"too much over the first road", right, []int64{0, 11, 24}, 0, api.ErrSum},
		{"too much over the second road", right, []int64{0, 9, 24}, 0, api.ErrSum},
		{"too much over the third road", right, []int64{0, 14, 28}, 0, api.ErrSum},
		{"a number too few", right, []int64{0, 10}, 0, api.ErrEqual},
		{"a number too many", right, []int64{0, 10, 24, 0}, 0, api.ErrEqual},
		{"no numbers", right, nil, 0, api.ErrEqual},
		{"no numbers, and a wrong share", []api.Share{{Work: -1}}, nil, 0, api.ErrEqual},
		{"the greatest amounts", right, []int64{1 << 45, -1 << 45, -1 << 45}, -1 << 46, api.OK},
		{"an amount too great", right, []int64{1<<45 + 1, 1 << 45, 1 << 45}, 0, api.ErrSum},
		{"an amount too great below 0", right, []int64{0, 0, -1<<45 - 1}, 0, api.ErrSum},
		{"the least of its type", right, []int64{extremes[0], extremes[0], extremes[0]}, 0, api.ErrSum},
		{"from the least to the greatest", right, []int64{extremes[0], 0, extremes[len(extremes)-1]}, 0, api.ErrSum},
		{"a part of 0", []api.Share{share(0, 1, 0)}, []int64{0, 5, 15}, 15, api.OK},
		{"a part of 0 helps nothing", []api.Share{share(0, 1, 0)}, []int64{0, 4, 15}, 0, api.ErrSum},
		{"a part below 0", []api.Share{share(0, 1, -1)}, []int64{0, 0, 0}, 0, api.ErrSum},
		{"a part above the cost", []api.Share{share(0, 1, 5)}, []int64{0, 0, 0}, 0, api.ErrSum},
		{"the greatest part", []api.Share{share(0, 1, extremes[len(extremes)-1])}, []int64{0, 0, 0}, 0, api.ErrSum},
		{"a share twice", []api.Share{share(0, 1, 2), share(0, 1, 2)}, []int64{0, 0, 0}, 0, api.ErrSum},
		{"a share twice, and another one between", []api.Share{share(0, 1, 0), share(1, 2, 2), share(0, 1, 0)}, []int64{0, 0, 0}, 0, api.ErrSum},
		{"a share for another road", []api.Share{share(0, 2, 0)}, []int64{0, 0, 0}, 0, api.ErrSum},
		{"a share for a road that is wide enough", []api.Share{share(0, 0, 0)}, []int64{0, 0, 0}, 0, api.ErrSum},
		{"a share for another measure", []api.Share{{Road: 1, Measure: 0}}, []int64{0, 0, 0}, 0, api.ErrSum},
		{"no such measure", []api.Share{{Road: 1, Measure: 6}}, []int64{0, 0, 0}, 0, api.ErrSum},
		{"a measure below 0", []api.Share{{Road: 1, Measure: -1}}, []int64{0, 0, 0}, 0, api.ErrSum},
		{"no such work", []api.Share{share(2, 1, 0)}, []int64{0, 0, 0}, 0, api.ErrSum},
		{"a work below 0", []api.Share{share(-1, 1, 0)}, []int64{0, 0, 0}, 0, api.ErrSum},
		{"a work far above", []api.Share{share(64, 1, 0)}, []int64{0, 0, 0}, 0, api.ErrSum},
		{"no such road", []api.Share{share(0, 3, 0)}, []int64{0, 0, 0}, 0, api.ErrSum},
		{"a road below 0", []api.Share{share(0, -1, 0)}, []int64{0, 0, 0}, 0, api.ErrSum},
	} {
		got, e := road.CheckBound(example(), wide(4000), 0, 2, api.Bound{Shares: x.shares, Places: x.places})
		check(t, x.what, got, e, x.want, x.e)
	}
	b := api.Bound{Shares: right, Places: []int64{0, 10, 24}}
	got, e := road.CheckBound(example(), wide(4000), 2, 0, b)
	check(t, "the other way", got, e, -24, api.OK)
	got, e = road.CheckBound(example(), wide(4000), 1, 1, b)
	check(t, "to itself", got, e, 0, api.OK)
	got, e = road.CheckBound(example(), wide(3000), 0, 2, b)
	check(t, "of another size", got, e, 0, api.ErrSum)
}

// P7.5: the parts of a work are at most its cost together, and of two works for a load the least part counts: 0 without a
// share.
func TestCheckBoundOfManyShares(t *testing.T) {
	m := threeNarrow(widen(4000, 9, 0, 1, 2), widen(4000, 5, 0), widen(3999, 5, 1))
	for _, x := range []struct {
		what   string
		shares []api.Share
		places []int64
		want   int64
		e      api.Errno
	}{
		{"all for one", []api.Share{share(0, 1, 9)}, []int64{0, 10, 29, 39, 99}, 39, api.OK},
		{"all for one, and one more", []api.Share{share(0, 1, 9)}, []int64{0, 10, 30, 39, 99}, 0, api.ErrSum},
		{"just the cost", []api.Share{share(0, 1, 5), share(0, 2, 4)}, []int64{0, 10, 25, 39, 99}, 39, api.OK},
		{"one above the cost", []api.Share{share(0, 1, 5), share(0, 2, 5)}, []int64{0, 10, 25, 39, 99}, 0, api.ErrSum},
		{"one above the cost at last", []api.Share{share(0, 0, 9), share(0, 1, 0), share(0, 2, 1)}, []int64{0, 0, 0, 0, 0}, 0, api.ErrSum},
		{"a share of the one work", []api.Share{share(0, 0, 3)}, []int64{0, 11, 0, 0, 0}, 0, api.ErrSum},
		{"a share of the other work", []api.Share{share(1, 0, 3)}, []int64{0, 11, 0, 0, 0}, 0, api.ErrSum},
		{"a share of both", []api.Share{share(1, 0, 5), share(0, 0, 3)}, []int64{0, 13, 0, 0, 0}, 0, api.OK},
		{"not the greater one of both", []api.Share{share(1, 0, 5), share(0, 0, 3)}, []int64{0, 14, 0, 0, 0}, 0, api.ErrSum},
		{"a work that is not enough", []api.Share{share(2, 1, 0)}, []int64{0, 0, 0, 0, 0}, 0, api.ErrSum},
		{"a road that cannot be made usable", nil, []int64{0, 0, 0, 0, 1 << 40}, 0, api.OK},
	} {
		got, e := road.CheckBound(m, wide(4000), 0, 3, api.Bound{Shares: x.shares, Places: x.places})
		check(t, x.what, got, e, x.want, x.e)
	}
}

// P7.5: a measure that could be helped is no load of a road that another measure blocks.
func TestCheckBoundOfBlockedRoad(t *testing.T) {
	m := withWorks(cityMap(2, narrow(0, 1, 10, 1000)), widen(4000, 6, 0))
	m.Roads[0].Limit[api.MeasureHeight] = 0
	b := api.Bound{Shares: []api.Share{share(0, 0, 0)}, Places: []int64{0, 0}}
	got, e := road.CheckBound(m, [6]int64{1, 4000}, 0, 1, b)
	check(t, "blocked", got, e, 0, api.ErrSum)
	got, e = road.CheckBound(m, wide(4000), 0, 1, b)
	check(t, "not blocked", got, e, 0, api.OK)
}

// P7.5: proofs of all kinds, against the words of the chapter.
func TestCheckBoundAny(t *testing.T) {
	r := chance(6)
	kinds := map[api.Errno]int{}
	for range 6000 {
		m, size := anyMap(r, small), anySize(r)
		begin, end := r.IntN(m.Places), r.IntN(m.Places)
		b := anyProof(r, m, size, begin)
		want, wantErr := checkBoundOf(m, size, begin, end, b)
		got, e := road.CheckBound(m, size, begin, end, b)
		check(t, "any", got, e, want, wantErr)
		kinds[e]++
	}
	if kinds[api.OK] < 1000 || kinds[api.ErrSum] < 1000 || kinds[api.ErrEqual] < 50 {
		t.Errorf("kinds: %v", kinds)
	}
}

// anyProof returns an even proof with some changes.
func anyProof(r *rand.Rand, m api.Map, size [6]int64, begin int) api.Bound {
	b := api.Bound{Shares: sharesOf(m, size), Places: make([]int64, m.Places)}
	for end := range m.Places {
		if even, e := evenOf(m, size, begin, end); e == api.OK {
			b = even
		}
	}
	for range r.IntN(4) {
		b.Places[r.IntN(len(b.Places))] += from(r, -2, 2)
	}
	for range r.IntN(3) {
		if len(b.Shares) == 0 {
			break
		}
		s := &b.Shares[r.IntN(len(b.Shares))]
		s.Part += from(r, -1, 1)
		if r.IntN(4) == 0 {
			*s = api.Share{Work: r.IntN(5) - 1, Road: r.IntN(len(m.Roads)+2) - 1, Measure: r.IntN(8) - 1, Part: from(r, 0, 2)}
		}
	}
	switch r.IntN(20) {
	case 0:
		b.Places = append(b.Places, 5)
	case 1:
		b.Places[r.IntN(len(b.Places))] = extremes[r.IntN(len(extremes))]
	case 2:
		b.Shares = slices.Concat(b.Shares, b.Shares)
	case 3, 4, 5:
		r.Shuffle(len(b.Shares), func(i, j int) { b.Shares[i], b.Shares[j] = b.Shares[j], b.Shares[i] })
		b.Shares = b.Shares[:r.IntN(len(b.Shares)+1)]
	}
	return b
}
