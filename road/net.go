package road

import (
	"iter"
	"math"
	"slices"
)

// never is the number of what is not reached.
const never = math.MaxInt64

// net is the roads of a map that are usable with works, and what is counted along them: costs, or time.
type net struct {
	survey
	works set
	// after returns the number behind a road, of the one ahead of it. It is greater, and not less for a greater one.
	after func(road int, ahead int64) int64
}

// queue is places from which the roads are still to be followed.
type queue struct {
	waiting set
	numbers []int64 // of all places
}

// take takes the place with the least number out of the queue; false if there is none.
func (q *queue) take() (int, bool) {
	if q.waiting == 0 {
		return 0, false
	}
	place, _ := least(q.waiting.all(), func(p int) int64 { return q.numbers[p] })
	q.waiting &^= one(place)
	return place, true
}

// untilNone yields what a function gives, until it gives nothing.
func untilNone[T any](take func() (T, bool)) iter.Seq[T] {
	return func(yield func(T) bool) {
		for thing, ok := take(); ok && yield(thing); thing, ok = take() {
		}
	}
}

// numbers returns the least number of each place on ways from a place, that has the number start, which do not come to
// places that are shut.
func (n net) numbers(from int, start int64, shut set) []int64 {
	q := queue{numbers: slices.Repeat([]int64{never}, n.Places)}
	if !shut.has(from) {
		q.waiting, q.numbers[from] = one(from), start
	}
	// A place that is taken keeps its number: all that come later are greater.
	for place := range untilNone(q.take) {
		for road := range n.usable(n.works, place) {
			to, number := n.Roads[road].To, n.after(road, q.numbers[place])
			if number < q.numbers[to] && !shut.has(to) {
				q.waiting |= one(to)
				q.numbers[to] = number
			}
		}
	}
	return q.numbers
}

// first returns the first of the routes that have the least number at their end. There has to be one.
//
// It may come to a place on the way with a number that is not the least one there, if it waits anyway later on. So each
// road is followed by what can still be reached from its end, and not through the places that were visited.
func (n net) first(from, to int, start int64) []int {
	var route []int
	for visited := one(from); from != to; visited |= one(from) {
		road, _ := least(n.usable(n.works, from), func(road int) int64 {
			return n.numbers(n.Roads[road].To, n.after(road, start), visited)[to]
		})
		route = append(route, road)
		from, start = n.Roads[road].To, n.after(road, start)
	}
	return route
}
