package schedule

import (
	"slices"

	"gooseneck/api"
)

// step is a reason, with the one that it goes back to.
type step struct {
	api.Reason
	back *step // the one of By; nil if By is none

	// exact is how many steps, up to this one, follow one another at just the time that a link asks for. If there are as
	// many as tasks, they and the one before them have a task twice, and it begins later the second time: the links in
	// between are a circle with a sum above 0.
	exact int
}

// proof returns the reasons up to a step.
func (s *step) proof() []api.Reason {
	var l []api.Reason
	for ; s != nil; s = s.back {
		l = append(l, s.Reason)
	}
	slices.Reverse(l)
	return l
}

// circle returns the tasks of the last circle on the way to a step. There has to be one.
func (s *step) circle() []int {
	var l []int
	for ; !slices.Contains(l, s.Task); s = s.back {
		l = append(l, s.Task)
	}
	l = l[slices.Index(l, s.Task):]
	slices.Reverse(l)
	return l
}

// raising is the starts of tasks, while they are raised.
type raising struct {
	fit     func(task int, from int64) int64 // the first fit of a task
	last    []*step                          // the last step of each task: it does not begin earlier
	raisers [][]func() *step                 // for each task: what raises the tasks that it is linked to
	raised  []int                            // a queue: the tasks whose raisers are still to be called
}

// raise raises the starts of tasks, until they keep all links. It returns the last steps of the tasks; or nil, and the step
// after which there can be no plan.
//
// It ends soon, however late the windows are: each task waits at most once for each of its windows; and while none waits, the
// queue of raised tasks is worked off at most as often as there are tasks, or else a circle shows.
func raise(tasks int, links []api.After, fit func(task int, from int64) int64) ([]*step, *step) {
	r := &raising{fit: fit, last: make([]*step, tasks), raisers: make([][]func() *step, tasks)}
	for _, l := range links {
		r.raisers[l.First] = append(r.raisers[l.First], r.raiser(l))
	}
	for task := range tasks {
		if end := r.put(&step{Reason: api.Reason{Task: task, By: none}}); end != nil {
			return nil, end
		}
	}
	for len(r.raised) > 0 {
		first := r.raised[0]
		r.raised = r.raised[1:]
		for _, raiser := range r.raisers[first] {
			if end := raiser(); end != nil {
				return nil, end
			}
		}
	}
	return r.last, nil
}

// raiser returns what raises the second task of a link, if it begins too early. That returns what put returns.
func (r *raising) raiser(l api.After) func() *step {
	return func() *step {
		first := r.last[l.First]
		from := first.Start + l.Lag
		if from <= r.last[l.Second].Start {
			return nil
		}
		return r.put(&step{Reason: api.Reason{Task: l.Second, By: l.First, From: from}, back: first})
	}
}

// put completes a step, and makes it the last one of its task. It returns the step if there can be no plan after it, and nil
// otherwise.
func (r *raising) put(s *step) *step {
	s.Start = r.fit(s.Task, s.From)
	if s.back != nil && s.Start == s.From {
		s.exact = s.back.exact + 1
	}
	if s.Start == none || s.exact == len(r.last) {
		return s
	}
	r.last[s.Task] = s
	if !slices.Contains(r.raised, s.Task) {
		r.raised = append(r.raised, s.Task)
	}
	return nil
}

// inWindows returns the first fits of the tasks of a job, if they have to end in time, too.
func inWindows(j api.Job, end int64) func(task int, from int64) int64 {
	return func(task int, from int64) int64 {
		t := j.Tasks[task]
		start := firstFit(t.Windows, t.Minutes, from)
		if start > end-t.Minutes {
			return none
		}
		return start
	}
}

// anywhere returns the first fit of a task that has all windows.
func anywhere(_ int, from int64) int64 { return from }
