package road

import (
	"cmp"
	"iter"
	"math/bits"
	"slices"
)

// set is a set of numbers below 64, a bit for each: of works, or of places.
type set uint64

func one(n int) set { return 1 << n }

func setOf(l []int) set {
	var s set
	for _, n := range l {
		s |= one(n)
	}
	return s
}

func (s set) has(n int) bool { return n >= 0 && s>>n&1 == 1 }

// all yields the numbers of a set, increasing.
func (s set) all() iter.Seq[int] {
	return func(yield func(int) bool) {
		for left := s; left != 0; left &= left - 1 {
			if !yield(bits.TrailingZeros64(uint64(left))) {
				return
			}
		}
	}
}

func (s set) list() []int { return slices.Collect(s.all()) }

// sets yields all sets of the first n numbers, in the lexicographic order of their lists.
func sets(n int) iter.Seq[set] {
	return func(yield func(set) bool) { yieldLonger(0, 0, n, yield) }
}

// yieldLonger yields a set, and then those that have also numbers from next to n - 1. It reports whether to go on.
func yieldLonger(s set, next, n int, yield func(set) bool) bool {
	if !yield(s) {
		return false
	}
	for i := next; i < n; i++ {
		if !yieldLonger(s|one(i), i+1, n, yield) {
			return false
		}
	}
	return true
}

// least returns the first of some things of which the value is the least one, and this value; zero values if there are none.
func least[T any, N cmp.Ordered](all iter.Seq[T], value func(T) N) (T, N) {
	var best T
	var bestValue N
	isFound := false
	for thing := range all {
		if v := value(thing); !isFound || v < bestValue {
			best, bestValue, isFound = thing, v, true
		}
	}
	return best, bestValue
}
