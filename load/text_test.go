package load_test

import (
	"strings"
	"testing"

	"gooseneck/api"
	"gooseneck/load"
)

const exampleText = "load box 300\n" +
	"piece 0 0 0 2000 1000 1000 4000\n" +
	"piece 0 0 1000 1000 1000 500 1000\n" +
	"eye 0 0 500 10000\n" +
	"eye 2000 1000 500 10000\n"

// P2.7
func TestText(t *testing.T) {
	for _, x := range []struct {
		l    api.Load
		want string
	}{
		{example(), exampleText},
		{of(block(-1, -20, 3, 4, 5, 6, 7)), "load a 500\npiece -1 -20 3 4 5 6 7\n"},
		{with(rubbing(of(block(0, 0, 0, 1, 1, 1, 1)), 0), eye(-1, -2, 0, 0)), "load a 0\npiece 0 0 0 1 1 1 1\neye -1 -2 0 0\n"},
		{with(of(block(-side, -side, 0, 2*side, 2*side, side, 1<<24)), eye(side, side, side, 1<<22)),
			"load a 500\npiece -131072 -131072 0 262144 262144 131072 16777216\neye 131072 131072 131072 4194304\n"},
	} {
		s, e := load.Text(x.l)
		check(t, "Text", s, e, x.want, api.OK)
		l, e := load.Parse(x.want)
		checkLoad(t, "Parse", l, e, x.l, api.OK)
	}
}

// P2.7: what is not just the text of a valid load.
func TestParseForm(t *testing.T) {
	const head, piece, mark = "load a 500\n", "piece 1 2 3 4 5 6 7\n", "eye 1 2 3 4\n"
	for what, s := range map[string]string{
		"nothing": "", "a line feed": "\n", "no piece": head, "no head": piece, "an eye only": head + mark,
		"no line feed at the end": "load a 500\npiece 1 2 3 4 5 6 7", "a line feed too many": head + piece + "\n",
		"a line feed in front": "\n" + head + piece, "a line feed between": head + "\n" + piece, "carriage returns": "load a 500\r\npiece 1 2 3 4 5 6 7\r\n",
		"an eye ahead of a piece": head + mark + piece, "an eye between pieces": head + piece + mark + piece,
		"the head behind": piece + head, "the head twice": head + head + piece, "another head": "load b 500\n" + head + piece,
		"another word": head + "box 1 2 3 4 5 6 7\n", "a word of capitals": "Load a 500\n" + piece, "an empty word": head + " \n" + piece,
		"a number too few": head + "piece 1 2 3 4 5 6\n", "a number too many": head + "piece 1 2 3 4 5 6 7 8\n", "no number": head + "piece\n",
		"an eye with a number too few": head + piece + "eye 1 2 3\n", "an eye with a number too many": head + piece + "eye 1 2 3 4 5\n",
		"a head with a word too few": "load a\n" + piece, "a head with a word too many": "load a b 500\n" + piece, "a head alone": "load\n" + piece,
		"a space in front": " " + head + piece, "a space in front of a piece": head + " " + piece,
		"a space at the end": head + "piece 1 2 3 4 5 6 7 \n", "two spaces": head + "piece 1  2 3 4 5 6 7\n", "a tab": head + "piece 1\t2 3 4 5 6 7\n",
		"a zero in front": head + "piece 01 2 3 4 5 6 7\n", "a zero in front of the friction": "load a 0500\n" + piece, "less than nothing": head + "piece -0 2 3 4 5 6 7\n",
		"a plus": head + "piece +1 2 3 4 5 6 7\n", "a zero behind a minus": head + "piece -01 2 3 4 5 6 7\n", "a minus only": head + "piece - 2 3 4 5 6 7\n",
		"not a number": head + "piece x 2 3 4 5 6 7\n", "a name as friction": "load a b\n" + piece, "a part of a number": head + "piece 1.0 2 3 4 5 6 7\n",
		"a low line": head + "piece 1_0 2 3 4 5 6 7\n", "digits of another base": head + "piece 0x1 2 3 4 5 6 7\n",
		"digits of another script": head + "piece \u0661 2 3 4 5 6 7\n", "a number that wraps": head + "piece 18446744073709551617 2 3 4 5 6 7\n",
		"a number beyond": head + "piece 9223372036854775807 2 3 4 5 6 7\n", "a number far beyond": head + "piece 99999999999999999999999 2 3 4 5 6 7\n",
		"no name": "load  500\n" + piece, "a name of capitals": "load A 500\n" + piece, "a name too long": "load abcdefghijklmnopqrstu 500\n" + piece,
		"a friction beyond": "load a 1001\n" + piece, "a piece that is not valid": head + "piece 1 2 -3 4 5 6 7\n", "a piece without a size": head + "piece 1 2 3 0 5 6 7\n",
		"an eye that is not valid": head + piece + "eye 1 2 -3 4\n", "no mass": head + "piece 1 2 3 4 5 6 0\n", "too much mass": head + "piece 1 2 3 4 5 6 16777216\n" + piece,
		"too many pieces": head + strings.Repeat(piece, 33), "too many eyes": head + piece + strings.Repeat(mark, 33), "a byte of zero": head + piece + "\x00",
		"bytes that are no text": "load \xff 500\n" + piece,
	} {
		l, e := load.Parse(s)
		checkLoad(t, what, l, e, api.Load{}, api.ErrForm)
	}
	l, e := load.Parse(head + strings.Repeat(piece, 32) + strings.Repeat(mark, 32))
	if e != api.OK || len(l.Pieces) != 32 || len(l.Eyes) != 32 {
		t.Errorf("as many as there may be: %v, %d", l, e)
	}
}

// P2.7
func TestParseLong(t *testing.T) {
	for _, x := range []struct {
		what string
		s    string
		want api.Errno
	}{
		{"as long as it may be", strings.Repeat("x", 16384), api.ErrForm},
		{"a byte too long", strings.Repeat("x", 16385), api.ErrLong},
		{"a load, and then too long", exampleText + strings.Repeat("\n", 16384), api.ErrLong},
		{"lines as many as there may be", strings.Repeat("\n", 16384), api.ErrForm},
		{"spaces as many as there may be", strings.Repeat(" ", 16384), api.ErrForm},
		{"pieces as many as there may be", "load a 500\n" + strings.Repeat("piece 1 2 3 4 5 6 7\n", 818), api.ErrForm},
	} {
		l, e := load.Parse(x.s)
		checkLoad(t, x.what, l, e, api.Load{}, x.want)
	}
}

// P2.14: Parse returns a valid load for its text, and nothing else has this text.
func TestTextAndBack(t *testing.T) {
	r := chance(8)
	for range 300 {
		l := anyLoad(r, 32, side)
		l.Name = []string{"a", "0", "abcdefghijklmnopqrst"}[r.IntN(3)]
		s := must[string](t, "Text")(load.Text(l))
		got, e := load.Parse(s)
		checkLoad(t, "Parse of a text", got, e, l, api.OK)
		other := clone(l)
		switch p, y := &other.Pieces[r.IntN(len(l.Pieces))], &other.Eyes[r.IntN(len(l.Eyes))]; r.IntN(5) {
		case 0:
			p.X, p.Y = p.X+1-r.Int64N(3), p.Y+1-r.Int64N(3)
		case 1:
			p.L, p.W, p.H = p.L+1-r.Int64N(3), p.W+1-r.Int64N(3), p.H+1-r.Int64N(3)
		case 2:
			y.X, y.Z, y.Strength = y.X+1-r.Int64N(3), y.Z+1-r.Int64N(3), y.Strength+1-r.Int64N(3)
		case 3:
			other.Eyes = other.Eyes[1:]
		case 4:
			other.Friction++
		}
		if o, e := load.Text(other); e == api.OK && (o == s) != same(l, other) {
			t.Errorf("%v and %v have the text %q", l, other, s)
		}
	}
}

// P2.14: a text in which one byte is another one is read as itself, or not at all.
func TestParseOfOtherBytes(t *testing.T) {
	const bytes = "\n -+0159afilopzA\x00\xff"
	s := "load a 50\npiece -1 20 3 4 5 6 7\neye 1 2 3 4\n"
	for i := range len(s) {
		for k := range len(bytes) {
			for _, other := range []string{s[:i] + bytes[k:k+1] + s[i+1:], s[:i] + bytes[k:k+1] + s[i:], s[:i] + s[i+1:]} {
				l, e := load.Parse(other)
				if e != api.OK {
					checkLoad(t, other, l, e, api.Load{}, api.ErrForm)
					continue
				}
				back, e := load.Text(l)
				check(t, "the text of what was read", back, e, other, api.OK)
			}
		}
	}
}
