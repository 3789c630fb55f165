package load

import (
	"strconv"
	"strings"

	"gooseneck/api"
	"gooseneck/words"
)

// Text returns the text of a load. (P2.7)
func Text(l api.Load) (string, api.Errno) {
	if e := Check(l); e != api.OK {
		return "", e
	}
	return text(l), api.OK
}

// Parse returns the load with a text. (P2.7)
func Parse(s string) (api.Load, api.Errno) {
	if len(s) > api.MaxLoadText {
		return api.Load{}, api.ErrLong
	}
	l, ok := read(s)
	// A text that is almost right is read as a load with another text.
	if !ok || Check(l) != api.OK || text(l) != s {
		return api.Load{}, api.ErrForm
	}
	return l, api.OK
}

func text(l api.Load) string {
	s := words.Line("load "+l.Name, l.Friction)
	for _, p := range l.Pieces {
		s += words.Line("piece", p.X, p.Y, p.Z, p.L, p.W, p.H, p.Mass)
	}
	for _, y := range l.Eyes {
		s += words.Line("eye", y.X, y.Y, y.Z, y.Strength)
	}
	return s
}

// meaning is what a line means: how many words it has behind the first one, and what they add to a load.
type meaning struct {
	words int
	add   func(l *api.Load, w []string)
}

// meanings returns those of all lines, by their first words.
func meanings() map[string]meaning {
	return map[string]meaning{
		"load":  {2, addHead},
		"piece": {7, addPiece},
		"eye":   {4, addEye},
	}
}

func addHead(l *api.Load, w []string) {
	l.Name, l.Friction = w[0], number(w[1])
}

func addPiece(l *api.Load, w []string) {
	l.Pieces = append(l.Pieces, api.Piece{
		X: number(w[0]), Y: number(w[1]), Z: number(w[2]),
		L: number(w[3]), W: number(w[4]), H: number(w[5]),
		Mass: number(w[6]),
	})
}

func addEye(l *api.Load, w []string) {
	l.Eyes = append(l.Eyes, api.Eye{X: number(w[0]), Y: number(w[1]), Z: number(w[2]), Strength: number(w[3])})
}

// read returns the load that the lines of a text add up to. It does not look at their order, or how numbers are
// written; that shows when the text of this load is compared.
func read(s string) (api.Load, bool) {
	var l api.Load
	known := meanings()
	for row := range strings.Lines(s) {
		w := strings.Split(strings.TrimSuffix(row, "\n"), " ")
		m, ok := known[w[0]]
		if !ok || len(w) != m.words+1 {
			return api.Load{}, false
		}
		m.add(&l, w[1:])
	}
	return l, true
}

// number returns what a word says. One that is not a number is read as another one, whose word is not the same.
func number(word string) int64 {
	n, _ := strconv.ParseInt(word, 10, 64)
	return n
}
