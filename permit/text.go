package permit

import (
	"strconv"
	"strings"

	"gooseneck/api"
	"gooseneck/words"
)

// sizeWords are the words of the sizes of transports.
var sizeWords = [...]string{
	api.MeasureHeight: "height",
	api.MeasureWidth:  "width",
	api.MeasureWeight: "weight",
	api.MeasureAxle:   "axle",
	api.MeasureLength: "length",
	api.MeasureTurn:   "turn",
}

// Text returns the text of an authority. (P8.1)
func Text(a api.Authority) (string, api.Errno) {
	if e := Check(a); e != api.OK {
		return "", e
	}
	return text(a), api.OK
}

// Parse returns the authority with a text. (P8.1)
func Parse(s string) (api.Authority, api.Errno) {
	if len(s) > api.MaxText {
		return api.Authority{}, api.ErrLong
	}
	a := read(s)
	// What is not the text of a valid authority is read as one that is not valid, or has another text.
	if Check(a) != api.OK || text(a) != s {
		return api.Authority{}, api.ErrForm
	}
	return a, api.OK
}

func text(a api.Authority) string {
	s := words.Line("authority "+a.Name, a.Fee, a.Notice)
	for _, r := range a.Rules {
		s += ruleText(r)
	}
	return s
}

func ruleText(r api.Rule) string {
	s := "rule " + r.Name
	for _, road := range r.Roads {
		s += " " + road
	}
	s += "\n"
	for _, w := range r.Whens {
		s += words.Line("when "+sizeWords[w.Size], w.Least)
	}
	if r.Hours != [2]int64{} {
		s += words.Line("hours", r.Hours[0], r.Hours[1])
	}
	if r.Days != everyDay {
		s += words.Line("days", int64(r.Days))
	}
	if r.Season != [2]int64{} {
		s += words.Line("season", r.Season[0], r.Season[1])
	}
	if r.Forbid {
		s += words.Line("forbid")
	}
	for _, c := range r.Counts {
		s += words.Line("count "+c.Thing, c.Least, c.Most)
	}
	if r.Cost != 0 {
		s += words.Line("cost", r.Cost)
	}
	return s
}

// read returns the authority that the lines of a text add up to, up to the first one that means nothing. It does not look
// at their order, or how numbers are written; that shows when the text of this authority is compared.
func read(s string) api.Authority {
	var a api.Authority
lines:
	for line := range strings.Lines(s) {
		w := strings.Split(strings.TrimSuffix(line, "\n"), " ")
		last := len(a.Rules) - 1
		switch first := w[0]; {
		case first == "authority" && len(w) == 4:
			a.Name, a.Fee, a.Notice = w[1], number(w[2]), number(w[3])
		case first == "rule" && len(w) > 1:
			a.Rules = append(a.Rules, api.Rule{Name: w[1], Roads: w[2:], Days: everyDay})
		case last < 0 || !addTo(&a.Rules[last], first, w[1:]):
			break lines
		}
	}
	return a
}

// addTo adds to a rule what a line means, by its first word and the others. It reports whether the line means anything.
func addTo(r *api.Rule, first string, w []string) bool {
	switch {
	case first == "when" && len(w) == 2:
		r.Whens = append(r.Whens, api.When{Size: sizeOf(w[0]), Least: number(w[1])})
	case first == "hours" && len(w) == 2:
		r.Hours = [2]int64{number(w[0]), number(w[1])}
	case first == "days" && len(w) == 1:
		r.Days = int(number(w[0]))
	case first == "season" && len(w) == 2:
		r.Season = [2]int64{number(w[0]), number(w[1])}
	case first == "forbid" && len(w) == 0:
		r.Forbid = true
	case first == "count" && len(w) == 3:
		r.Counts = append(r.Counts, api.Count{Thing: w[0], Least: number(w[1]), Most: number(w[2])})
	case first == "cost" && len(w) == 1:
		r.Cost = number(w[0])
	default:
		return false
	}
	return true
}

// sizeOf returns the number of the size with a word; one that is not valid if there is none.
func sizeOf(word string) int {
	for size, known := range sizeWords {
		if known == word {
			return size
		}
	}
	return -1
}

// number returns what a word says. One that is not a number is read as another one, whose word is not the same.
func number(word string) int64 {
	n, _ := strconv.ParseInt(word, 10, 64)
	return n
}
