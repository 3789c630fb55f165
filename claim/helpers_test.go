package claim_test

import (
	"fmt"
	"math"
	"math/rand/v2"
	"slices"
	"testing"

	"gooseneck/api"
	"gooseneck/claim"
)

// extremes are numbers at the limits of the chapter, one beyond them, and at the ends of the type.
var extremes = []int64{
	math.MinInt64, math.MinInt64 + 1, -1<<40 - 1, -1 << 40, -1<<30 - 1, -1 << 30, -1<<20 - 1, -2, -1, 0, 1, 2, 3, 4, 999, 1000, 1001,
	1999, 2000, 2001, 1 << 20, 1<<20 + 1, 1 << 26, 1<<26 + 1, 1 << 30, 1<<30 + 1, 1 << 32, 1<<40 - 2000, 1<<40 - 1, 1 << 40,
	1<<40 + 1, math.MaxInt64 - 2000, math.MaxInt64 - 1, math.MaxInt64,
}

// chance returns numbers that look like chance, and are the same in each run.
func chance(seed uint64) *rand.Rand { return rand.New(rand.NewPCG(seed, 11)) }

// from returns a number from low to high.
func from(r *rand.Rand, low, high int64) int64 { return low + r.Int64N(high-low+1) }

// pick returns one of some things.
func pick[T any](r *rand.Rand, l ...T) T { return l[r.IntN(len(l))] }

// shown is a value as a text; a nil list and an empty one have the same.
func shown(x any) string { return fmt.Sprintf("%v", x) }

// check reports a result with its error, if they are not as they should be.
func check[T any](t *testing.T, what string, got T, e api.Errno, want T, wantErr api.Errno) {
	t.Helper()
	if shown(got) != shown(want) || e != wantErr {
		t.Errorf("%s: %v, %d, want %v, %d", what, got, e, want, wantErr)
	}
}

// checkSame reports a value that is not as it should be.
func checkSame(t *testing.T, what string, got, want any) {
	t.Helper()
	if shown(got) != shown(want) {
		t.Errorf("%s: %v, want %v", what, got, want)
	}
}

func band(lo, hi int64) api.Band { return api.Band{Lo: lo, Hi: hi} }

// read returns a reading of a place and of some values; the other ones are 0.
func read(at int64, place api.Band, values ...api.Band) api.Reading {
	r := api.Reading{At: at, Place: place}
	copy(r.Values[:], values)
	return r
}

// logOf returns a log in which the first value can change by so much in a minute.
func logOf(drift int64, readings ...api.Reading) api.Log {
	return api.Log{Drift: [4]int64{drift}, Readings: readings}
}

// example is the log of the chapter's examples.
func example() api.Log {
	return logOf(2, read(100, band(0, 10), band(5, 5)), read(104, band(90, 100), band(9, 9)))
}

// above returns the claim of the chapter's examples, above a limit.
func above(limit int64) api.Claim {
	return api.Claim{From: 40, To: 50, Limit: limit, End: 1000, Amount: 100}
}

// wide returns a claim about all places and all times, above a limit.
func wide(limit int64) api.Claim {
	return api.Claim{From: -1 << 30, To: 1 << 30, Limit: limit, End: 1 << 40, Amount: 100}
}

// within returns a claim from a time to another one.
func within(c api.Claim, begin, end int64) api.Claim {
	c.Begin, c.End = begin, end
	return c
}

// at returns a claim about places from one to another one.
func at(c api.Claim, low, high int64) api.Claim {
	c.From, c.To = low, high
	return c
}

// worth returns a claim of an amount.
func worth(c api.Claim, amount int64) api.Claim {
	c.Amount = amount
	return c
}

// historyOf returns a history with a first value for each of its places; the other ones are 0.
func historyOf(places []int64, values ...int64) api.History {
	h := api.History{Places: places}
	for _, n := range values {
		h.Values = append(h.Values, [4]int64{n})
	}
	return h
}

// spans is what Spans returns but its error.
type spans struct {
	place  api.Band
	values [4]api.Band
}

func spansAt(l api.Log, minute int) (spans, api.Errno) {
	place, values, e := claim.Spans(l, minute)
	return spans{place, values}, e
}

func cloneLog(l api.Log) api.Log {
	l.Readings = slices.Clone(l.Readings)
	return l
}

func cloneHistory(h api.History) api.History {
	return api.History{Places: slices.Clone(h.Places), Values: slices.Clone(h.Values)}
}

// anyLog returns a valid log of a few minutes and small numbers, of which about a half are sound.
func anyLog(r *rand.Rand) api.Log {
	l := api.Log{}
	for kind := range l.Drift {
		l.Drift[kind] = from(r, 0, 2)
	}
	minutes := r.IntN(5) + 1
	place := from(r, -3, 3)
	start := pick(r, 0, from(r, 1, 9), 1<<40-int64(minutes))
	for minute := range minutes + 1 {
		if minute > 0 && minute < minutes && r.IntN(2) == 0 {
			continue
		}
		x := read(start+int64(minute), band(place, place+from(r, 0, 3)))
		for kind := range x.Values {
			low := from(r, -2, 2)
			x.Values[kind] = band(low, low+from(r, 0, 3))
		}
		l.Readings = append(l.Readings, x)
		place += from(r, -1, 3)
	}
	return l
}

// anyClaim returns a claim about a log of small numbers.
func anyClaim(r *rand.Rand, l api.Log) api.Claim {
	c := at(wide(from(r, -3, 4)), from(r, -4, 3), 0)
	c.To = c.From + from(r, 0, 6)
	c.Kind = r.IntN(4)
	if first, last := l.Readings[0].At, l.Readings[len(l.Readings)-1].At; r.IntN(3) == 0 {
		c.Begin = max(0, from(r, first-1, last+1))
		c.End = min(1<<40, c.Begin+from(r, 0, last-first+2))
		c.Begin = min(c.Begin, c.End)
	}
	return c
}

// anyHistory returns one of the histories that fit a sound log.
func anyHistory(r *rand.Rand, l api.Log) api.History {
	var h api.History
	n, _ := claim.Minutes(l)
	for minute := range n {
		place, values, _ := claim.Spans(l, minute)
		var all [4]int64
		if minute > 0 {
			place.Lo = max(place.Lo, h.Places[minute-1])
		}
		for kind, b := range values {
			if minute > 0 {
				before := h.Values[minute-1][kind]
				b = band(max(b.Lo, before-l.Drift[kind]), min(b.Hi, before+l.Drift[kind]))
			}
			all[kind] = pick(r, b.Lo, b.Hi, from(r, b.Lo, b.Hi))
		}
		h.Places = append(h.Places, pick(r, place.Lo, place.Lo, place.Hi, from(r, place.Lo, place.Hi)))
		h.Values = append(h.Values, all)
	}
	return h
}

// longLog returns a sound log of up to so many minutes and readings, with numbers of any size. It is made from a history, which
// fits it.
func longLog(r *rand.Rand, minutes, readings int) api.Log {
	var l api.Log
	size := pick(r, int64(20), 1<<12, 1<<30-1<<20)
	steps := r.IntN(minutes-1) + 1
	place := from(r, -size, 0)
	var values [4]int64
	for kind := range l.Drift {
		l.Drift[kind] = min(pick(r, 0, from(r, 0, 3), from(r, 0, size/20)), 1<<20)
		values[kind] = from(r, -size, size)
	}
	start := pick(r, 0, 1<<40-int64(steps), from(r, 0, 1<<40-int64(steps)))
	blur := pick(r, int64(0), 2, size/100)
	every := max(2, 2*steps/readings)
	for minute := range steps + 1 {
		isEnd := minute == 0 || minute == steps
		if isEnd || len(l.Readings) < readings-1 && r.IntN(every) == 0 {
			x := read(start+int64(minute), about(r, place, blur))
			for kind, n := range values {
				x.Values[kind] = about(r, n, blur)
			}
			l.Readings = append(l.Readings, x)
		}
		place = min(size, place+max(0, from(r, -2*size/int64(steps), 4*size/int64(steps))))
		for kind, drift := range l.Drift {
			values[kind] = min(size, max(-size, values[kind]+from(r, -drift, drift)))
		}
	}
	return l
}

// about returns a band with a number in it, that reaches up to so much to each side.
func about(r *rand.Rand, n, most int64) api.Band {
	return band(max(-1<<30, n-from(r, 0, most)), min(1<<30, n+from(r, 0, most)))
}

// longClaim returns a claim that is near what a log says of one of its minutes.
func longClaim(r *rand.Rand, l api.Log) api.Claim {
	n, _ := claim.Minutes(l)
	minute := r.IntN(n)
	place, values, _ := claim.Spans(l, minute)
	kind := r.IntN(4)
	b := values[kind]
	limit := pick(r, b.Lo-1, b.Lo, b.Lo+1, b.Hi-1, b.Hi, from(r, b.Lo, b.Hi))
	c := at(wide(min(1<<30, max(-1<<30, limit))), place.Lo+from(r, -1, 1), place.Hi+from(r, -1, 1))
	c.From, c.To, c.Kind = max(-1<<30, min(c.From, c.To)), min(1<<30, max(c.From, c.To)), kind
	if r.IntN(2) == 0 {
		now := l.Readings[0].At + int64(minute)
		c.Begin = max(0, now-from(r, 0, int64(n)))
		c.End = min(1<<40, now+from(r, 0, int64(n)))
	}
	return c
}
