// Package words has what the texts of several layers share: names, and lines of a word and numbers.
package words

import (
	"strconv"

	"gooseneck/api"
)

// IsName reports whether a text is a name: from 1 to MaxName characters from a to z or from 0 to 9.
func IsName(s string) bool {
	for _, r := range s {
		if (r < 'a' || r > 'z') && (r < '0' || r > '9') {
			return false
		}
	}
	// All its characters are of one byte, now.
	return 1 <= len(s) && len(s) <= api.MaxName
}

// Line returns a line that begins with a text, and has numbers behind it.
func Line(first string, numbers ...int64) string {
	b := []byte(first)
	for _, n := range numbers {
		b = append(b, ' ')
		b = strconv.AppendInt(b, n, 10)
	}
	return string(append(b, '\n'))
}
