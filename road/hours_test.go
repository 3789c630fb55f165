package road_test

import (
	"slices"
	"testing"

	"gooseneck/api"
	"gooseneck/road"
)

// P7.7
func TestArrive(t *testing.T) {
	m := cityMap(3, hourly(0, 1, 60, 480, 540), hourly(1, 2, 60, 480, 540), hourly(1, 0, 30, 0, 1410), hourly(2, 1, 1440, 0, 0), hourly(1, 2, 1, 1439, 1439))
	for _, x := range []struct {
		what  string
		roads []int
		start int64
		want  int64
		e     api.Errno
	}{
		{"the example", []int{0, 1}, 500, 1980, api.OK},
		{"the example, later", []int{0, 1}, 550, 2040, api.OK},
		{"two within their hours", []int{0, 1}, 480, 600, api.OK},
		{"one too late for the second road", []int{0, 1}, 481, 1980, api.OK},
		{"no roads", nil, 1234567, 1234567, api.OK},
		{"no roads at 0", nil, 0, 0, api.OK},
		{"ahead of the hours", []int{0}, 0, 540, api.OK},
		{"a minute ahead of the hours", []int{0}, 479, 540, api.OK},
		{"as soon as it is open", []int{0}, 480, 540, api.OK},
		{"as late as it can be", []int{0}, 540, 600, api.OK},
		{"a minute too late", []int{0}, 541, 1980, api.OK},
		{"after it is closed", []int{0}, 601, 1980, api.OK},
		{"at the end of the day", []int{0}, 1439, 1980, api.OK},
		{"at midnight", []int{0}, 1440, 1980, api.OK},
		{"days later", []int{0}, 10*1440 + 541, 11*1440 + 540, api.OK},
		{"up to midnight", []int{2}, 1410, 1440, api.OK},
		{"not over midnight", []int{2}, 1411, 1470, api.OK},
		{"a whole day", []int{3}, 0, 1440, api.OK},
		{"a whole day, from midnight on", []int{3}, 1, 2880, api.OK},
		{"the last minute of the day", []int{4}, 0, 1440, api.OK},
		{"the last minute of the day, at it", []int{4}, 1439, 1440, api.OK},
		{"the last minute of the day, after it", []int{4}, 1440, 2880, api.OK},
		{"to and fro", []int{0, 2, 0, 1}, 480, 1440 + 600, api.OK},
		{"to itself", []int{0, 2}, 480, 570, api.OK},
		{"the greatest start", []int{0}, 1 << 40, 1<<40 - 1<<40%1440 + 1440 + 540, api.OK},
		{"roads that do not meet", []int{1, 0}, 500, 0, api.ErrSum},
		{"a road twice", []int{0, 0}, 500, 0, api.ErrSum},
		{"the last two do not meet", []int{0, 2, 0, 1, 2}, 500, 0, api.ErrSum},
	} {
		got, e := road.Arrive(m, x.roads, x.start)
		check(t, x.what, got, e, x.want, x.e)
	}
}

// P7.7: any roads at any time, against waiting minute by minute.
func TestArriveAny(t *testing.T) {
	r := chance(9)
	waits := 0
	for range 500 {
		m := anyMap(r, small)
		roads, place := []int{}, r.IntN(m.Places)
		for range r.IntN(8) {
			var next []int
			for i, one := range m.Roads {
				if one.From == place {
					next = append(next, i)
				}
			}
			if len(next) > 0 {
				roads = append(roads, next[r.IntN(len(next))])
				place = m.Roads[roads[len(roads)-1]].To
			}
		}
		for range 10 {
			start := from(r, 0, 1<<from(r, 0, 40))
			got, e := road.Arrive(m, roads, start)
			check(t, "any", got, e, arriveOf(m, roads, start), api.OK)
			var sum int64
			for _, i := range roads {
				sum += m.Roads[i].Minutes
			}
			if got > start+sum {
				waits++
			}
		}
	}
	if waits < 500 {
		t.Errorf("only %d wait", waits)
	}
}

// P7.7: as many roads as can be, each of which waits for its next day.
func TestArriveGreatest(t *testing.T) {
	m := cityMap(2, hourly(0, 1, 1440, 0, 0), hourly(1, 0, 1, 1439, 1439))
	roads := slices.Repeat([]int{0, 1}, 128)
	got, e := road.Arrive(m, roads, 1<<40)
	check(t, "the greatest", got, e, arriveOf(m, roads, 1<<40), api.OK)
	got, e = road.Arrive(m, append(roads, 0), 1<<40)
	check(t, "too many", got, e, 0, api.ErrMany)
}

// P7.8: the route that comes first may be late on its way, if it waits in the end anyway; but it visits no place twice.
func TestSoonest(t *testing.T) {
	m := cityMap(5, way(0, 1, 1), way(1, 0, 1), way(0, 2, 1), hourly(2, 3, 60, 1000, 1000), way(1, 2, 1), narrow(0, 3, 1, 1000), way(3, 0, 1))
	m.Works = []api.Work{widen(4000, 1, 5)}
	direct := m
	direct.Roads = slices.Delete(slices.Clone(m.Roads), 4, 5)
	direct.Works = nil
	for _, x := range []struct {
		what     string
		m        api.Map
		works    []int
		from, to int
		start    int64
		want     []int
		at       int64
		e        api.Errno
	}{
		{"the example", example(), nil, 0, 1, 541, []int{0}, 1980, api.OK},
		{"a way round, in time", m, nil, 0, 3, 880, []int{0, 4, 3}, 1060, api.OK},
		{"no way round, it would be late", m, nil, 0, 3, 881, []int{2, 3}, 1060, api.OK},
		{"a way round on the next day", m, nil, 0, 3, 941, []int{0, 4, 3}, 2500, api.OK},
		{"not back to where it began", direct, nil, 0, 3, 0, []int{2, 3}, 1060, api.OK},
		{"with a work", m, []int{0}, 0, 3, 880, []int{5}, 940, api.OK},
		{"with a work, at the same time", m, []int{0}, 0, 3, 1000, []int{5}, 1060, api.OK},
		{"on the way to the end, a place ahead of it", m, nil, 0, 2, 5, []int{2}, 65, api.OK},
		{"to itself", m, nil, 2, 2, 7, nil, 7, api.OK},
		{"not to be reached", m, nil, 0, 4, 7, nil, 0, api.ErrPlan},
		{"not to be left", m, nil, 4, 0, 7, nil, 0, api.ErrPlan},
		{"a circle to itself", m, nil, 3, 3, 0, nil, 0, api.OK},
		{"of two roads the first one", cityMap(2, way(1, 0, 1), way(0, 1, 9), way(0, 1, 1)), nil, 0, 1, 0, []int{1}, 60, api.OK},
		{"the one that is open sooner", cityMap(2, hourly(0, 1, 10, 500, 600), hourly(0, 1, 300, 100, 700)), nil, 0, 1, 0, []int{1}, 400, api.OK},
		{"the one that is faster", cityMap(2, hourly(0, 1, 10, 500, 600), hourly(0, 1, 300, 100, 700)), nil, 0, 1, 211, []int{0}, 510, api.OK},
		{"both at the same time", cityMap(2, hourly(0, 1, 10, 500, 600), hourly(0, 1, 300, 100, 700)), nil, 0, 1, 210, []int{0}, 510, api.OK},
		{"the greatest start", m, nil, 0, 1, 1 << 40, []int{0}, 1<<40 + 60, api.OK},
	} {
		roads, at, e := road.Soonest(x.m, wide(4000), x.works, x.from, x.to, x.start)
		checkNumbered(t, x.what, roads, at, e, x.want, x.at, x.e)
	}
}

// P7.8: the longest route.
func TestSoonestGreatest(t *testing.T) {
	m := cityMap(64)
	for i := range 252 {
		m.Roads = append(m.Roads, hourly(i/4, i/4+1, 1440, 0, 0))
	}
	var want []int
	for i := range 63 {
		want = append(want, 4*i)
	}
	roads, at, e := road.Soonest(m, wide(4000), nil, 0, 63, 1<<40)
	checkNumbered(t, "the greatest", roads, at, e, want, 1<<40-736+64*1440, api.OK)
}

// P7.8: maps and sizes of all kinds, against the words of the chapter.
func TestSoonestAny(t *testing.T) {
	r := chance(10)
	none, late := 0, 0
	for range 6000 {
		m, size := anyMap(r, extent{5, 24, 4, 6}), anySize(r)
		works, start := anySet(r, len(m.Works)), from(r, 0, 3000)
		begin, end := r.IntN(m.Places), r.IntN(m.Places)
		if r.IntN(2) == 0 {
			waitAt(m, end)
		}
		want, wantAt, wantErr := soonestOf(m, size, works, begin, end, start)
		roads, at, e := road.Soonest(m, size, works, begin, end, start)
		checkNumbered(t, "any", roads, at, e, want, wantAt, wantErr)
		if e != api.OK {
			none++
		}
		for k, i := range roads {
			_, soonest, _ := soonestOf(m, size, works, begin, m.Roads[i].To, start)
			if arriveOf(m, roads[:k+1], start) > soonest {
				late++
				break
			}
		}
	}
	if none < 100 || late < 100 {
		t.Errorf("%d have no route, and %d are late on their way", none, late)
	}
}

// waitAt has all roads to a place be entered at just one minute of the day.
func waitAt(m api.Map, place int) {
	for i, one := range m.Roads {
		if one.To == place {
			m.Roads[i].Minutes, m.Roads[i].Open, m.Roads[i].Close = 60, 900, 960
		}
	}
}

// P7.8
func TestLabels(t *testing.T) {
	m := cityMap(5, way(0, 1, 1), hourly(1, 2, 100, 480, 540), narrow(0, 3, 1, 1000), hourly(3, 2, 1, 0, 1439), way(2, 0, 1))
	m.Works = []api.Work{widen(3999, 1, 2), widen(4000, 1, 2)}
	for _, x := range []struct {
		what  string
		works []int
		from  int
		start int64
		want  []int64
	}{
		{"without works", nil, 0, 0, []int64{0, 60, 580, -1, -1}},
		{"without works, later", nil, 0, 481, []int64{481, 541, 2020, -1, -1}},
		{"with a work that is not enough", []int{0}, 0, 0, []int64{0, 60, 580, -1, -1}},
		{"with a work", []int{1}, 0, 0, []int64{0, 60, 61, 60, -1}},
		{"from another place", []int{1}, 2, 1000, []int64{1060, 1120, 1000, 1120, -1}},
		{"from a place that cannot be left", []int{0, 1}, 4, 1, []int64{-1, -1, -1, -1, 1}},
		{"the greatest start", nil, 0, 1 << 40, []int64{1 << 40, 1<<40 + 60, 1<<40 - 736 + 1440 + 580, -1, -1}},
	} {
		got, e := road.Labels(m, wide(4000), x.works, x.from, x.start)
		checkList(t, x.what, got, e, x.want, api.OK)
	}
	got, e := road.Labels(example(), wide(4000), nil, 0, 541)
	checkList(t, "the example", got, e, []int64{541, 1980, -1}, api.OK)
}

// P7.8: maps and sizes of all kinds, against the words of the chapter.
func TestLabelsAny(t *testing.T) {
	r := chance(11)
	for range 2000 {
		m, size := anyMap(r, small), anySize(r)
		works, begin, start := anySet(r, len(m.Works)), r.IntN(m.Places), from(r, 0, 3000)
		got, e := road.Labels(m, size, works, begin, start)
		checkList(t, "any", got, e, labelsOf(m, size, works, begin, start), api.OK)
	}
}

// P7.8
func TestCheckLabels(t *testing.T) {
	m := withWorks(cityMap(4, way(0, 1, 1), hourly(1, 2, 100, 480, 540), narrow(0, 2, 1, 1000)), widen(4000, 1, 2))
	for _, x := range []struct {
		what   string
		works  []int
		from   int
		start  int64
		labels []int64
		want   api.Errno
	}{
		{"what Labels returns", nil, 0, 5, []int64{5, 65, 580, -1}, api.OK},
		{"sooner than can be", nil, 0, 5, []int64{0, 7, 8, 9}, api.OK},
		{"all at 0", nil, 0, 5, []int64{0, 0, 0, 0}, api.OK},
		{"a beginning that is later", nil, 0, 5, []int64{6, 66, 580, -1}, api.ErrSum},
		{"a beginning without a label", nil, 0, 5, []int64{-1, 0, 0, 0}, api.ErrSum},
		{"no labels at all", nil, 0, 5, []int64{-1, -1, -1, -1}, api.ErrSum},
		{"a place without a label", nil, 0, 5, []int64{5, -1, 580, -1}, api.ErrSum},
		{"the last place without a label", nil, 0, 5, []int64{5, 65, -1, -1}, api.ErrSum},
		{"a label that is later", nil, 0, 5, []int64{5, 66, 580, -1}, api.ErrSum},
		{"the last label is later", nil, 0, 5, []int64{5, 65, 581, -1}, api.ErrSum},
		{"a place that there is no road to has a label", nil, 0, 5, []int64{5, 65, 580, 3}, api.OK},
		{"a place behind no label has a label", nil, 3, 5, []int64{-1, -1, 1 << 41, 0}, api.OK},
		{"another place has a label that is right", nil, 3, 5, []int64{-1, 380, 580, 0}, api.OK},
		{"another place has a label that is wrong", nil, 3, 5, []int64{-1, 380, 581, 0}, api.ErrSum},
		{"with a work", []int{0}, 0, 5, []int64{5, 65, 65, -1}, api.OK},
		{"with a work, and a label that is later", []int{0}, 0, 5, []int64{5, 65, 66, -1}, api.ErrSum},
		{"the greatest labels", nil, 3, 1 << 40, []int64{1 << 41, 1 << 41, 1 << 41, 1 << 40}, api.OK},
		{"the greatest labels, and one before that is less", nil, 3, 1 << 40, []int64{1 << 40, 1 << 41, 1 << 41, 1 << 40}, api.ErrSum},
		{"a label above the greatest one", nil, 0, 5, []int64{5, 65, 580, 1<<41 + 1}, api.ErrRange},
		{"a label below -1", nil, 0, 5, []int64{5, 65, 580, -2}, api.ErrRange},
		{"the beginning below -1", nil, 0, 5, []int64{-2, 65, 580, -1}, api.ErrRange},
		{"a label below -1, and another one that is wrong", nil, 0, 5, []int64{6, -1, 580, extremes[0]}, api.ErrRange},
		{"a label too few", nil, 0, 5, []int64{5, 65, 580}, api.ErrEqual},
		{"a label too many", nil, 0, 5, []int64{5, 65, 580, -1, -1}, api.ErrEqual},
		{"no list", nil, 0, 5, nil, api.ErrEqual},
		{"a label too few, and one below -1", nil, 0, 5, []int64{-2, 65, 580}, api.ErrEqual},
	} {
		checkErr(t, x.what, road.CheckLabels(m, wide(4000), x.works, x.from, x.start, x.labels), x.want)
	}
}

// P7.8: labels of all kinds, against the words of the chapter.
func TestCheckLabelsAny(t *testing.T) {
	r := chance(12)
	kinds := map[api.Errno]int{}
	for range 6000 {
		m, size := anyMap(r, small), anySize(r)
		works, begin, start := anySet(r, len(m.Works)), r.IntN(m.Places), from(r, 0, 3000)
		labels := labelsOf(m, size, works, begin, start)
		for range r.IntN(3) {
			i := r.IntN(len(labels))
			labels[i] = max(-1, labels[i]+from(r, -20, 20))
		}
		switch r.IntN(20) {
		case 0:
			labels[r.IntN(len(labels))] = extremes[r.IntN(len(extremes))]
		case 1:
			labels = labels[1:]
		case 2, 3:
			labels[r.IntN(len(labels))] = -1
		}
		got := road.CheckLabels(m, size, works, begin, start, labels)
		checkErr(t, "any", got, checkLabelsOf(m, size, works, begin, start, labels))
		kinds[got]++
	}
	if kinds[api.OK] < 1000 || kinds[api.ErrSum] < 1000 || kinds[api.ErrEqual] < 50 || kinds[api.ErrRange] < 50 {
		t.Errorf("kinds: %v", kinds)
	}
}
