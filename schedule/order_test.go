package schedule_test

import (
	"slices"
	"testing"

	"gooseneck/api"
	"gooseneck/schedule"
)

// twoTeams is a job of five tasks: 4, 0 and 2 of the team 0, 3 of the team 2, 1 of none; the team 1 has no tasks.
func twoTeams() api.Job {
	j := api.Job{Tasks: tasks(5, free(7)), Afters: []api.After{link(4, 1, -3), link(0, 2, 5)}, Teams: []int64{10, 100, 1000}}
	j.Tasks[0].Team, j.Tasks[2].Team, j.Tasks[4].Team, j.Tasks[3].Team = 0, 0, 0, 2
	j.Tasks[0].Minutes = 0
	j.Tasks[4].Minutes = 3
	return j
}

// P9.1
func TestCheckOrder(t *testing.T) {
	for _, x := range []struct {
		what  string
		order [][]int
		want  api.Errno
	}{
		{"increasing", [][]int{{0, 2, 4}, {}, {3}}, api.OK},
		{"decreasing", [][]int{{4, 2, 0}, nil, {3}}, api.OK},
		{"no lists", nil, api.ErrEqual},
		{"a list too few", [][]int{{0, 2, 4}, {}}, api.ErrEqual},
		{"a list too many", [][]int{{0, 2, 4}, {}, {3}, {}}, api.ErrEqual},
		{"a list of those of no team", [][]int{{0, 2, 4}, {}, {3}, {1}}, api.ErrEqual},
		{"a wrong number of wrong lists", [][]int{{-7}}, api.ErrEqual},
		{"a task too few", [][]int{{0, 2}, {}, {3}}, api.ErrArg},
		{"no tasks", [][]int{{}, {}, {}}, api.ErrArg},
		{"a task twice", [][]int{{0, 2, 4, 2}, {}, {3}}, api.ErrArg},
		{"a task twice for another one", [][]int{{0, 2, 2}, {}, {3}}, api.ErrArg},
		{"a task of no team", [][]int{{0, 2, 4, 1}, {}, {3}}, api.ErrArg},
		{"a task of another team", [][]int{{0, 2, 4}, {}, {3, 0}}, api.ErrArg},
		{"tasks of two teams changed", [][]int{{0, 2, 3}, {}, {4}}, api.ErrArg},
		{"a task in the list of a team that has none", [][]int{{0, 2, 4}, {3}, {3}}, api.ErrArg},
		{"a task that there is not", [][]int{{0, 2, 5}, {}, {3}}, api.ErrArg},
		{"a task below 0", [][]int{{0, 2, -1}, {}, {3}}, api.ErrArg},
		{"one wrong, in the last list", [][]int{{0, 2, 4}, {}, {3, 3}}, api.ErrArg},
	} {
		checkErr(t, x.what, schedule.CheckOrder(twoTeams(), x.order), x.want)
		_, e := schedule.Links(twoTeams(), x.order)
		checkErr(t, "Links: "+x.what, e, x.want)
	}
	checkErr(t, "no teams", schedule.CheckOrder(jobOf(3), nil), api.OK)
	checkErr(t, "no teams, but a list", schedule.CheckOrder(jobOf(3), [][]int{{}}), api.ErrEqual)
}

// P9.1
func TestLinks(t *testing.T) {
	for _, x := range []struct {
		what  string
		j     api.Job
		order [][]int
		want  []api.After
	}{
		{"the example", example(), [][]int{{0, 1}}, []api.After{link(0, 2, 50), link(0, 1, 90)}},
		{"the example, backward", example(), [][]int{{1, 0}}, []api.After{link(0, 2, 50), link(1, 0, 90)}},
		{"no links", jobOf(2), nil, nil},
		{"a list of one task", api.Job{Tasks: tasks(1, timed(1, 0, nil)), Teams: []int64{5}}, [][]int{{0}}, nil},
		{"increasing", twoTeams(), [][]int{{0, 2, 4}, {}, {3}}, []api.After{link(4, 1, -3), link(0, 2, 5), link(0, 2, 10), link(2, 4, 17)}},
		{"decreasing", twoTeams(), [][]int{{4, 2, 0}, {}, {3}}, []api.After{link(4, 1, -3), link(0, 2, 5), link(4, 2, 13), link(2, 0, 17)}},
		{
			"two teams", api.Job{Tasks: slices.Concat(tasks(2, timed(10080, 1, nil)), tasks(2, timed(1, 0, nil))), Teams: []int64{0, 1 << 20}},
			[][]int{{3, 2}, {0, 1}}, []api.After{link(3, 2, 1), link(0, 1, 1<<20+10080)},
		},
	} {
		got, e := schedule.Links(x.j, x.order)
		check(t, x.what, got, e, x.want, api.OK)
	}
}

// P9.1: any order.
func TestOrderAny(t *testing.T) {
	r := chance(2)
	for range 1000 {
		j := anyJob(r, large)
		order := anyOrder(r, j)
		checkErr(t, "CheckOrder", schedule.CheckOrder(j, order), api.OK)
		got, e := schedule.Links(j, order)
		check(t, "Links", got, e, linksOf(j, order), api.OK)
		if len(order) == 0 {
			continue
		}
		list := &order[r.IntN(len(order))]
		switch n := r.IntN(len(j.Tasks)); {
		case len(*list) > 0 && r.IntN(2) == 0:
			*list = (*list)[1:]
		default:
			*list = append(*list, n)
		}
		checkErr(t, "CheckOrder of another list", schedule.CheckOrder(j, order), api.ErrArg)
	}
}

// P9.3
func TestOrderOf(t *testing.T) {
	j := twoTeams() // of the team 0, the task 0 has 0 minutes, 4 has 3 and 2 has 7
	same := clone(j)
	same.Tasks[0].Minutes, same.Tasks[2].Minutes = 3, 3
	for _, x := range []struct {
		what   string
		j      api.Job
		starts []int64
		want   [][]int
		e      api.Errno
	}{
		{"by their starts", j, []int64{5, 0, 3, 9, 1}, [][]int{{4, 2, 0}, {}, {3}}, api.OK},
		{"equal starts, by their minutes", j, []int64{5, 0, 5, 9, 5}, [][]int{{0, 4, 2}, {}, {3}}, api.OK},
		{"equal starts, the first two", j, []int64{5, 0, 2, 9, 2}, [][]int{{4, 2, 0}, {}, {3}}, api.OK},
		{"equal starts and minutes, by their numbers", same, []int64{5, 0, 5, 9, 5}, [][]int{{0, 2, 4}, {}, {3}}, api.OK},
		{"a lesser start with more minutes", j, []int64{6, 0, 5, 9, 6}, [][]int{{2, 0, 4}, {}, {3}}, api.OK},
		{"the least and the greatest start", j, []int64{1 << 40, 0, 0, 1 << 40, 5}, [][]int{{2, 4, 0}, {}, {3}}, api.OK},
		{"no teams", jobOf(2), []int64{1, 0}, nil, api.OK},
		{"a start too few", j, []int64{5, 0, 3, 9}, nil, api.ErrEqual},
		{"a start too many", j, []int64{-5, 0, 3, 9, 1, 1}, nil, api.ErrEqual},
		{"no starts", j, nil, nil, api.ErrEqual},
		{"a start below 0", j, []int64{5, 0, 3, 9, -1}, nil, api.ErrRange},
		{"a start of no team below 0", j, []int64{5, -1, 3, 9, 1}, nil, api.ErrRange},
		{"too great a start", j, []int64{1<<40 + 1, 0, 3, 9, 1}, nil, api.ErrRange},
	} {
		got, e := schedule.OrderOf(x.j, x.starts)
		check(t, x.what, got, e, x.want, x.e)
	}
}
