package words_test

import (
	"math"
	"strings"
	"testing"

	"gooseneck/words"
)

func TestIsName(t *testing.T) {
	for s, want := range map[string]bool{
		"a": true, "z": true, "0": true, "9": true, "v1": true, "abcdefghijklmnopqrst": true, "01234567890123456789": true,
		"": false, "abcdefghijklmnopqrstu": false, "A": false, "Z": false, "`": false, "{": false, "/": false, ":": false,
		" ": false, "a b": false, "a ": false, " a": false, "a\n": false, "-": false, "_": false, "\x00": false, "\xff": false,
		"\u00e4": false, "\u0661": false, strings.Repeat("\u00e4", 10): false, strings.Repeat("a", 1<<16): false,
	} {
		if words.IsName(s) != want {
			t.Errorf("%q: %v", s, !want)
		}
	}
}

func TestLine(t *testing.T) {
	for _, x := range []struct {
		got, want string
	}{
		{words.Line("vehicle v1"), "vehicle v1\n"},
		{words.Line("load", 1, 0), "load 1 0\n"},
		{words.Line("a", -1, math.MinInt64, math.MaxInt64), "a -1 -9223372036854775808 9223372036854775807\n"},
	} {
		if x.got != x.want {
			t.Errorf("%q, want %q", x.got, x.want)
		}
	}
}
