package permit_test

import (
	"math/rand/v2"
	"slices"
	"strings"
	"testing"

	"gooseneck/api"
	"gooseneck/permit"
)

const exampleText = "authority county 120 2880\n" +
	"rule night a1\n" +
	"when width 3500\n" +
	"hours 1320 360\n" +
	"count escort 1 10\n" +
	"cost 30\n" +
	"rule day a1\n" +
	"when weight 60000\n" +
	"hours 360 1200\n" +
	"days 31\n"

// P8.1
func TestText(t *testing.T) {
	full := rule(roads("x", "y", "x"), when(0, 0), when(1, 1), when(2, 1<<30), when(3, 3), when(4, 4), when(5, 5),
		hours(1440, 0), days(0), season(0, 365), forbid, count("x", 0, 0), count("0", 1000, 1000), cost(1<<30))
	for _, x := range []struct {
		a    api.Authority
		want string
	}{
		{county(), exampleText},
		{api.Authority{Name: "0"}, "authority 0 0 0\n"},
		{api.Authority{Name: longName, Fee: 1 << 30, Notice: 1 << 20}, "authority " + longName + " 1073741824 1048576\n"},
		{under(rule())[0], "authority a 0 0\nrule r\n"},
		{under(rule(), rule(hours(0, 0)), rule(season(0, 0), cost(0)))[0], "authority a 0 0\nrule r\nrule r\nrule r\n"},
		{under(rule(hours(0, 1)), rule(hours(1, 0)), rule(hours(7, 7)))[0], "authority a 0 0\nrule r\nhours 0 1\nrule r\nhours 1 0\nrule r\nhours 7 7\n"},
		{under(rule(season(0, 1)), rule(season(1, 0)), rule(season(7, 7)))[0], "authority a 0 0\nrule r\nseason 0 1\nrule r\nseason 1 0\nrule r\nseason 7 7\n"},
		{under(rule(days(126)), rule(days(127)), rule(days(1)))[0], "authority a 0 0\nrule r\ndays 126\nrule r\nrule r\ndays 1\n"},
		{under(full)[0], "authority a 0 0\nrule r x y x\nwhen height 0\nwhen width 1\nwhen weight 1073741824\nwhen axle 3\nwhen length 4\nwhen turn 5\n" +
			"hours 1440 0\ndays 0\nseason 0 365\nforbid\ncount x 0 0\ncount 0 1000 1000\ncost 1073741824\n"},
	} {
		s, e := permit.Text(x.a)
		check(t, "Text", s, e, x.want, api.OK)
		a, e := permit.Parse(x.want)
		check(t, "Parse", a, e, x.a, api.OK)
	}
}

// P8.1: Text returns the error of Check.
func TestTextOfWhatIsNotValid(t *testing.T) {
	for _, x := range []struct {
		a    api.Authority
		want api.Errno
	}{
		{api.Authority{Name: "a", Rules: make([]api.Rule, 25)}, api.ErrMany},
		{api.Authority{}, api.ErrArg},
		{under(rule(when(6, 1)))[0], api.ErrArg},
		{under(rule(when(-1, 1)))[0], api.ErrArg},
		{under(rule(), rule(days(128)))[0], api.ErrArg},
	} {
		s, e := permit.Text(x.a)
		check(t, "Text", s, e, "", x.want)
	}
}

// P8.1: what is not just the text of a valid authority.
func TestParseForm(t *testing.T) {
	const head, rule = "authority a 10 0\n", "rule r x\n"
	const both = head + rule
	for what, s := range map[string]string{
		"nothing": "", "a line feed": "\n", "no head": rule, "a head behind": rule + head, "two heads": head + head, "another head": head + "authority b 10 0\n",
		"a head behind a rule": both + head, "no line feed at the end": "authority a 10 0", "no line feed behind a rule": head + "rule r x",
		"a line feed too many": both + "\n", "a line feed in front": "\n" + both, "a line feed between": head + "\n" + rule, "carriage returns": "authority a 10 0\r\nrule r x\r\n",
		"a head with a word too few": "authority a 10\n", "a head with a word too many": "authority a 10 0 0\n", "a head alone": "authority\n",
		"a rule without a name": head + "rule\n", "a rule with an empty name": head + "rule \n", "a rule with a space behind": head + "rule r \n",
		"an empty road": head + "rule r x  y\n", "17 roads": head + "rule r" + strings.Repeat(" x", 17) + "\n", "25 rules": head + strings.Repeat(rule, 25),
		"a when without a rule": head + "when width 3\n", "hours without a rule": head + "hours 1 2\n", "days without a rule": head + "days 3\n",
		"a season without a rule": head + "season 1 2\n", "forbid without a rule": head + "forbid\n", "a count without a rule": head + "count x 1 2\n",
		"a cost without a rule": head + "cost 3\n", "another word": both + "cheap 3\n", "a word of capitals": both + "Forbid\n", "an empty word": both + " \n",
		"another size": both + "when depth 3\n", "a size of capitals": both + "when Width 3\n", "no size": both + "when 3\n", "a number as a size": both + "when 1 3\n",
		"an empty size": both + "when  3\n", "a when with a word too many": both + "when width 3 3\n", "a when alone": both + "when\n", "7 whens": both + strings.Repeat("when width 3\n", 7),
		"hours of all day": both + "hours 0 0\n", "hours with a word too few": both + "hours 1\n", "hours with a word too many": both + "hours 1 2 3\n",
		"hours twice": both + "hours 1 2\nhours 1 2\n", "hours beyond the day": both + "hours 1 1441\n", "hours below 0": both + "hours -1 2\n",
		"all days": both + "days 127\n", "days beyond": both + "days 128\n", "days below 0": both + "days -1\n", "days with a word too few": both + "days\n",
		"days with a word too many": both + "days 1 2\n", "days twice": both + "days 1\ndays 1\n", "days that wrap": both + "days 4294967297\n",
		"a season of all year": both + "season 0 0\n", "a season with a word too few": both + "season 1\n", "a season with a word too many": both + "season 1 2 3\n",
		"a season twice": both + "season 1 2\nseason 1 2\n", "a season beyond": both + "season 1 366\n",
		"forbid with a word too many": both + "forbid 1\n", "forbid with a space behind": both + "forbid \n", "forbid twice": both + "forbid\nforbid\n",
		"a count with a word too few": both + "count x 1\n", "a count with a word too many": both + "count x 1 2 3\n", "a count of no name": both + "count X 1 2\n",
		"a count without a name": both + "count 1 2\n", "a count of an empty name": both + "count  1 2\n", "the least above the most": both + "count x 2 1\n", "a count beyond": both + "count x 1 1001\n",
		"7 counts": both + strings.Repeat("count x 1 2\n", 7), "a cost of nothing": both + "cost 0\n", "a cost below 0": both + "cost -1\n", "a cost beyond": both + "cost 1073741825\n",
		"a cost with a word too few": both + "cost\n", "a cost with a word too many": both + "cost 1 2\n", "a cost twice": both + "cost 1\ncost 1\n",
		"a when behind hours": both + "hours 1 2\nwhen width 3\n", "hours behind days": both + "days 1\nhours 1 2\n", "days behind a season": both + "season 1 2\ndays 1\n",
		"a season behind forbid": both + "forbid\nseason 1 2\n", "forbid behind a count": both + "count x 1 2\nforbid\n", "a count behind a cost": both + "cost 1\ncount x 1 2\n",
		"a space in front": " " + both, "a space in front of a line": both + " forbid\n", "a space at the end": both + "cost 3 \n", "two spaces": both + "hours 1  2\n", "a tab": both + "cost\t3\n",
		"a zero in front": both + "cost 03\n", "less than nothing": "authority a -0 0\n", "a plus": both + "cost +3\n", "a minus only": both + "cost -\n",
		"not a number": both + "cost x\n", "a part of a number": both + "cost 3.0\n", "a low line": both + "cost 1_0\n", "digits of another base": both + "cost 0x1\n",
		"digits of another script": both + "cost \u0661\n", "a number that wraps": both + "cost 18446744073709551617\n", "a number far beyond": both + "cost 99999999999999999999999\n",
		"no name": "authority  10 0\n", "a name of capitals": "authority A 10 0\n", "a name too long": "authority " + tooLongName + " 10 0\n",
		"a fee below 0": "authority a -1 0\n", "a fee beyond": "authority a 1073741825 0\n", "a notice beyond": "authority a 0 1048577\n", "a number that is not one": "authority a b 0\n",
		"a byte of zero": both + "\x00", "bytes that are no text": "authority \xff 10 0\n", "what is not a line": both + "forbid\nx",
	} {
		a, e := permit.Parse(s)
		check(t, what, a, e, api.Authority{}, api.ErrForm)
	}
}

// P8.1
func TestParseLong(t *testing.T) {
	for _, x := range []struct {
		what string
		s    string
		want api.Errno
	}{
		{"as long as it may be", strings.Repeat("x", 65536), api.ErrForm},
		{"a byte too long", strings.Repeat("x", 65537), api.ErrLong},
		{"an authority, and then too long", exampleText + strings.Repeat("\n", 65536), api.ErrLong},
		{"lines as many as there may be", strings.Repeat("\n", 65536), api.ErrForm},
		{"spaces as many as there may be", strings.Repeat(" ", 65536), api.ErrForm},
		{"rules as many as there may be", "authority a 1 1\n" + strings.Repeat("rule r\n", 9360), api.ErrForm},
		{"whens as many as there may be", "authority a 1 1\nrule r\n" + strings.Repeat("when axle 3\n", 5459), api.ErrForm},
	} {
		a, e := permit.Parse(x.s)
		check(t, x.what, a, e, api.Authority{}, x.want)
	}
}

// The longest authority that there is has a text, too.
func TestLongestText(t *testing.T) {
	r := rule(roads(slices.Repeat([]string{longName}, 16)...), hours(1440, 1440), days(100), season(365, 365), forbid, cost(1<<30))
	for range 6 {
		when(2, 1<<30)(&r)
		count(longName, 1000, 1000)(&r)
	}
	r.Name = longName
	a := api.Authority{Name: longName, Fee: 1 << 30, Notice: 1 << 20, Rules: slices.Repeat([]api.Rule{r}, 24)}
	s := must[string](t, "Text")(permit.Text(a))
	got, e := permit.Parse(s)
	check(t, "Parse", got, e, a, api.OK)
}

// vary changes one thing of an authority.
func vary(r *rand.Rand, a *api.Authority) {
	if len(a.Rules) == 0 || r.IntN(8) == 0 {
		numbers := []*int64{&a.Fee, &a.Notice}
		*numbers[r.IntN(2)] += 1 - r.Int64N(3)
		return
	}
	one := &a.Rules[r.IntN(len(a.Rules))]
	switch r.IntN(9) {
	case 0:
		one.Name = pick(r, words...)
	case 1:
		one.Roads = one.Roads[:len(one.Roads)/2]
	case 2:
		one.Whens = append(one.Whens, api.When{Size: r.IntN(7), Least: r.Int64N(4)})
	case 3:
		one.Hours[r.IntN(2)] += 1 - r.Int64N(3)
	case 4:
		one.Days ^= 1 << r.IntN(8)
	case 5:
		one.Season[r.IntN(2)] += 1 - r.Int64N(3)
	case 6:
		one.Forbid = !one.Forbid
	case 7:
		one.Counts = one.Counts[:len(one.Counts)/2]
	case 8:
		one.Cost = max(0, one.Cost-1)
	}
}

// P8.9: Parse returns a valid authority for its text, and nothing else has this text.
func TestTextAndBack(t *testing.T) {
	r := chance(1)
	for range 3000 {
		a := anyAuthority(r, pick(r, words...), 5)
		s := must[string](t, "Text")(permit.Text(a))
		got, e := permit.Parse(s)
		check(t, "Parse of a text", got, e, a, api.OK)
		other := cloneOf(a)
		vary(r, &other)
		if o, e := permit.Text(other); e == api.OK && (o == s) != same(a, other) {
			t.Errorf("%v and %v have the text %q", a, other, s)
		}
	}
}

// P8.9: a text in which one byte is another one is read as itself, or not at all.
func TestParseOfOtherBytes(t *testing.T) {
	const bytes = "\n -+012379acdehinorstuwyA\x00\xff"
	s := "authority a 1 2\nrule r x\nwhen axle 3\nhours 1 2\ndays 12\nseason 3 0\nforbid\ncount x 1 2\ncost 9\nrule s\n"
	for i := range len(s) {
		for k := range len(bytes) {
			for _, other := range []string{s[:i] + bytes[k:k+1] + s[i+1:], s[:i] + bytes[k:k+1] + s[i:], s[:i] + s[i+1:]} {
				a, e := permit.Parse(other)
				if e != api.OK {
					check(t, other, a, e, api.Authority{}, api.ErrForm)
					continue
				}
				back, e := permit.Text(a)
				check(t, "the text of what was read", back, e, other, api.OK)
			}
		}
	}
}

// P8.9: lines that are left out, or change places, are read as themselves, or not at all.
func TestParseOfOtherLines(t *testing.T) {
	r := chance(2)
	fine := 0
	for range 3000 {
		a := anyAuthority(r, "a", 3)
		lines := slices.Collect(strings.Lines(must[string](t, "Text")(permit.Text(a))))
		for range 1 + r.IntN(2) {
			i, k := r.IntN(len(lines)), r.IntN(len(lines))
			if r.IntN(2) == 0 && len(lines) > 1 {
				lines = without(lines, i)
			} else {
				lines[i], lines[k] = lines[k], lines[i]
			}
			if len(lines) == 0 {
				break
			}
		}
		s := strings.Join(lines, "")
		got, e := permit.Parse(s)
		if e != api.OK {
			check(t, s, got, e, api.Authority{}, api.ErrForm)
			continue
		}
		fine++
		back, e := permit.Text(got)
		check(t, "the text of what was read", back, e, s, api.OK)
	}
	if fine < 300 {
		t.Errorf("only %d were read", fine)
	}
}
