package permit_test

import (
	"math"
	"slices"
	"testing"

	"gooseneck/api"
	"gooseneck/permit"
)

const (
	longName    = "abcdefghijklmnopqrst"
	tooLongName = longName + "u"
)

// badNames are not names.
var badNames = []string{"", tooLongName, "A", "a b", "a\n", "-1", "_", "\u00e4", "\x00", "\xff"}

// changed returns the authority of the examples, changed.
func changed(change func(a *api.Authority)) api.Authority {
	a := county()
	change(&a)
	return a
}

// P8.1
func TestCheck(t *testing.T) {
	for _, x := range []struct {
		what string
		a    api.Authority
		want api.Errno
	}{
		{"the example", county(), api.OK},
		{"a name alone", api.Authority{Name: "0"}, api.OK},
		{"a long name", api.Authority{Name: longName}, api.OK},
		{"nothing", api.Authority{}, api.ErrArg},
		{"24 rules", under(slices.Repeat([]api.Rule{rule()}, 24)...)[0], api.OK},
		{"25 rules", under(slices.Repeat([]api.Rule{rule()}, 25)...)[0], api.ErrMany},
		{"25 rules that are not valid", api.Authority{Fee: -1, Rules: make([]api.Rule, 25)}, api.ErrMany},
		{"24 rules that are not valid", under(make([]api.Rule, 24)...)[0], api.ErrArg},
		{"a last rule that is not valid", under(rule(), rule(), api.Rule{})[0], api.ErrArg},
		{"16 roads", under(rule(roads(slices.Repeat([]string{"x"}, 16)...)))[0], api.OK},
		{"17 roads", under(rule(roads(slices.Repeat([]string{"x"}, 17)...)))[0], api.ErrArg},
		{"6 whens", under(rule(slices.Repeat([]func(*api.Rule){when(0, 0)}, 6)...))[0], api.OK},
		{"7 whens", under(rule(slices.Repeat([]func(*api.Rule){when(0, 0)}, 7)...))[0], api.ErrArg},
		{"6 counts", under(rule(slices.Repeat([]func(*api.Rule){count("x", 0, 0)}, 6)...))[0], api.OK},
		{"7 counts", under(rule(slices.Repeat([]func(*api.Rule){count("x", 0, 0)}, 7)...))[0], api.ErrArg},
		{"the least above the most", under(rule(count("x", 3, 2)))[0], api.ErrArg},
		{"the least as the most", under(rule(count("x", 3, 3)))[0], api.OK},
		{"no days", under(rule(days(0)))[0], api.OK},
		{"all that a rule can have", changed(func(a *api.Authority) { a.Rules[0].Season, a.Rules[0].Forbid = [2]int64{365, 0}, true }), api.OK},
	} {
		checkErr(t, x.what, permit.Check(x.a), x.want)
	}
}

// P8.1: names have from 1 to 20 characters, each from a to z or from 0 to 9.
func TestCheckNames(t *testing.T) {
	for what, set := range map[string]func(a *api.Authority, name string){
		"an authority": func(a *api.Authority, name string) { a.Name = name },
		"a rule":       func(a *api.Authority, name string) { a.Rules[1].Name = name },
		"a road":       func(a *api.Authority, name string) { a.Rules[0].Roads = []string{"x", name} },
		"a thing":      func(a *api.Authority, name string) { a.Rules[0].Counts[0].Thing = name },
	} {
		for _, name := range badNames {
			checkErr(t, what+" "+name, permit.Check(changed(func(a *api.Authority) { set(a, name) })), api.ErrArg)
		}
		for _, name := range []string{"a", "z", "0", "9", longName} {
			checkErr(t, what+" "+name, permit.Check(changed(func(a *api.Authority) { set(a, name) })), api.OK)
		}
	}
}

// P8.1: the least and the greatest of each number is valid, and what is beyond is not.
func TestCheckLimits(t *testing.T) {
	for _, x := range []struct {
		what      string
		low, high int64
		set       func(a *api.Authority, n int64)
	}{
		{"the fee", 0, 1 << 30, func(a *api.Authority, n int64) { a.Fee = n }},
		{"the notice", 0, 1 << 20, func(a *api.Authority, n int64) { a.Notice = n }},
		{"the size of a when", 0, 5, func(a *api.Authority, n int64) { a.Rules[1].Whens[0].Size = int(n) }},
		{"the least of a when", 0, 1 << 30, func(a *api.Authority, n int64) { a.Rules[1].Whens[0].Least = n }},
		{"the first hour", 0, 1440, func(a *api.Authority, n int64) { a.Rules[0].Hours[0] = n }},
		{"the second hour", 0, 1440, func(a *api.Authority, n int64) { a.Rules[0].Hours[1] = n }},
		{"the days", 0, 127, func(a *api.Authority, n int64) { a.Rules[0].Days = int(n) }},
		{"the beginning of the season", 0, 365, func(a *api.Authority, n int64) { a.Rules[0].Season[0] = n }},
		{"the end of the season", 0, 365, func(a *api.Authority, n int64) { a.Rules[0].Season[1] = n }},
		{"the least of a count", 0, 10, func(a *api.Authority, n int64) { a.Rules[0].Counts[0].Least = n }},
		{"the most of a count", 1, 1000, func(a *api.Authority, n int64) { a.Rules[0].Counts[0].Most = n }},
		{"the cost", 0, 1 << 30, func(a *api.Authority, n int64) { a.Rules[1].Cost = n }},
	} {
		for _, n := range append([]int64{x.low - 1, x.low, x.high, x.high + 1}, extremes...) {
			want := api.OK
			if n < x.low || n > x.high {
				want = api.ErrArg
			}
			a := changed(func(a *api.Authority) { x.set(a, n) })
			if got := permit.Check(a); got != want {
				t.Errorf("%s of %d: error %d, want %d", x.what, n, got, want)
			}
		}
	}
}

// P8.2
func TestCheckAll(t *testing.T) {
	named := func(names ...string) []api.Authority {
		var l []api.Authority
		for _, s := range names {
			l = append(l, api.Authority{Name: s})
		}
		return l
	}
	crowded := api.Authority{Rules: make([]api.Rule, 25)}
	for _, x := range []struct {
		what string
		l    []api.Authority
		want api.Errno
	}{
		{"none", nil, api.ErrMany},
		{"one", named("a"), api.OK},
		{"8", named("a", "b", "c", "d", "e", "f", "g", "h"), api.OK},
		{"9", named("a", "b", "c", "d", "e", "f", "g", "h", "i"), api.ErrMany},
		{"9 that are not valid", make([]api.Authority, 9), api.ErrMany},
		{"a last one that is not valid", named("a", "b", "C"), api.ErrArg},
		{"one that is not valid ahead of one with too many rules", append(named("A"), crowded), api.ErrArg},
		{"one with too many rules ahead of one that is not valid", append([]api.Authority{crowded}, named("A")...), api.ErrMany},
		{"two of a name", named("a", "b", "a"), api.ErrHave},
		{"two of a name at the end", named("a", "b", "b"), api.ErrHave},
		{"two of a name ahead of one that is not valid", named("a", "a", ""), api.ErrArg},
		{"two without a name", named("", ""), api.ErrArg},
	} {
		checkErr(t, x.what, permit.CheckAll(x.l), x.want)
	}
}

// P8.2
func TestCheckTrip(t *testing.T) {
	for _, x := range []struct {
		what string
		trip api.Trip
		want api.Errno
	}{
		{"the example", ride(40000), api.OK},
		{"no passages", api.Trip{}, api.ErrMany},
		{"no passages, and a size below 0", api.Trip{Sizes: [6]int64{-1}}, api.ErrMany},
		{"24 passages", pass(slices.Repeat([]int64{1}, 24)...), api.OK},
		{"25 passages", pass(slices.Repeat([]int64{1}, 25)...), api.ErrMany},
		{"25 passages that are not valid", api.Trip{Passages: make([]api.Passage, 25)}, api.ErrMany},
		{"a last passage that is not valid", pass(1, 1, 0), api.ErrArg},
	} {
		checkErr(t, x.what, permit.CheckTrip(x.trip), x.want)
	}
	for i := range 6 {
		for _, n := range append([]int64{math.MinInt64, -1, 0, 1 << 30, 1<<30 + 1}, extremes...) {
			trip, want := ride(40000), api.ErrArg
			trip.Sizes[i] = n
			if 0 <= n && n <= 1<<30 {
				want = api.OK
			}
			checkErr(t, "a size", permit.CheckTrip(trip), want)
		}
	}
	for _, n := range append([]int64{0, 1, 10080, 10081}, extremes...) {
		want := api.ErrArg
		if 1 <= n && n <= 10080 {
			want = api.OK
		}
		checkErr(t, "minutes", permit.CheckTrip(pass(1, n)), want)
	}
	for _, name := range badNames {
		trip := pass(1, 1)
		trip.Passages[1].Authority = name
		checkErr(t, "an authority "+name, permit.CheckTrip(trip), api.ErrArg)
		trip = pass(1, 1)
		trip.Passages[1].Road = name
		checkErr(t, "a road "+name, permit.CheckTrip(trip), api.ErrArg)
	}
	trip := pass(1)
	trip.Passages[0].Authority, trip.Passages[0].Road = longName, longName
	checkErr(t, "long names", permit.CheckTrip(trip), api.OK)
}
