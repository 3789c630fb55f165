package chain

import (
	"strconv"
	"strings"

	"gooseneck/api"
	"gooseneck/words"
)

// kinds are the words of the kinds of units.
var kinds = [...]string{
	api.UnitTractor: "tractor",
	api.UnitDolly:   "dolly",
	api.UnitTrailer: "trailer",
	api.UnitModule:  "module",
}

// How many words the lines of a text have behind the first one.
const (
	unitWords = 9
	axleWords = 3
)

// Text returns the text of a vehicle. (P3.1)
func Text(v api.Vehicle) (string, api.Errno) {
	if e := Check(v); e != api.OK {
		return "", e
	}
	s := words.Line("vehicle " + v.Name)
	for _, u := range v.Units {
		s += words.Line(kinds[u.Kind], u.Length, u.Behind, u.Front, u.Rear, u.Width, u.Height, u.Mass, u.Steer, int64(u.Most))
		for _, a := range u.Axles {
			s += words.Line("axle", a.X, a.Limit, int64(a.Wheels))
		}
	}
	return s + words.Line("load", int64(v.From), int64(v.To)), api.OK
}

// stop is why a reader stops: it panics with it.
type stop int

const (
	stopLong stop = iota // the text is too long
	stopForm             // the text is not that of a valid vehicle
)

// Parse reads a vehicle. (P3.1)
func Parse(s string) (v api.Vehicle, e api.Errno) {
	defer func() {
		if why := recover(); why != nil {
			v, e = api.Vehicle{}, mistake(why)
		}
	}()
	return read(s), api.OK
}

// mistake returns the error of what a reader has stopped with.
func mistake(why any) api.Errno {
	if why == stopLong {
		return api.ErrLong
	}
	return api.ErrForm
}

func read(s string) api.Vehicle {
	if len(s) > api.MaxText {
		panic(stopLong)
	}
	r := &reader{rest: s}
	v := r.vehicle()
	if r.rest != "" || Check(v) != api.OK {
		panic(stopForm)
	}
	return v
}

// reader reads a text line by line, and stops at the first mistake.
type reader struct {
	rest string
}

func (r *reader) vehicle() api.Vehicle {
	v := api.Vehicle{Name: r.line("vehicle", 1)[0]}
	for !r.isAt("load") {
		v.Units = append(v.Units, r.unit())
	}
	n := numbers(r.line("load", 2))
	v.From, v.To = int(n[0]), int(n[1])
	return v
}

func (r *reader) unit() api.Unit {
	kind := r.kind()
	n := numbers(r.line(kinds[kind], unitWords))
	u := api.Unit{
		Kind: kind, Length: n[0], Behind: n[1], Front: n[2], Rear: n[3],
		Width: n[4], Height: n[5], Mass: n[6], Steer: n[7], Most: int(n[8]),
	}
	for r.isAt("axle") {
		n := numbers(r.line("axle", axleWords))
		u.Axles = append(u.Axles, api.Axle{X: n[0], Limit: n[1], Wheels: int(n[2])})
	}
	return u
}

// kind returns the kind of the unit that is next.
func (r *reader) kind() int {
	for kind, word := range kinds {
		if r.isAt(word) {
			return kind
		}
	}
	panic(stopForm)
}

// isAt reports whether the next line begins with a word.
func (r *reader) isAt(word string) bool { return strings.HasPrefix(r.rest, word+" ") }

// line takes a line that begins with a word, and returns the n words behind it.
func (r *reader) line(first string, n int) []string {
	line, rest, isWhole := strings.Cut(r.rest, "\n")
	l := strings.Split(line, " ")
	if !isWhole || l[0] != first || len(l) != n+1 {
		panic(stopForm)
	}
	r.rest = rest
	return l[1:]
}

// numbers returns what words say, which have to be written as Text does. No number of a valid vehicle needs more than
// 32 bits, so all of them fit into an int.
func numbers(l []string) []int64 {
	var read []int64
	for _, word := range l {
		n, err := strconv.ParseInt(word, 10, 32)
		if err != nil || strconv.FormatInt(n, 10) != word {
			panic(stopForm)
		}
		read = append(read, n)
	}
	return read
}
