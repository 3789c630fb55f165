package plane

import "gooseneck/api"

// maxTerm bounds the numbers of a quotient: twice the one and once the other still fit into 64 bits.
const maxTerm = 1 << 61

// Floor returns n / d, rounded down. (P1.1)
func Floor(n, d int64) (int64, api.Errno) {
	if !isQuotient(n, d) {
		return 0, api.ErrRange
	}
	return floor(n, d), api.OK
}

// Nearest returns the nearest whole number to n / d, the greater one of two. (P1.1)
func Nearest(n, d int64) (int64, api.Errno) {
	if !isQuotient(n, d) {
		return 0, api.ErrRange
	}
	return nearest(n, d), api.OK
}

// Root returns the greatest number whose square is at most n. (P1.1)
func Root(n int64) (int64, api.Errno) {
	if n < 0 {
		return 0, api.ErrArg
	}
	return root(n), api.OK
}

func isQuotient(n, d int64) bool {
	return !beyond(n, maxTerm) && 1 <= d && d <= maxTerm
}

// floor needs d above 0.
func floor(n, d int64) int64 {
	q := n / d
	if n%d < 0 {
		q--
	}
	return q
}

// nearest is n / d and a half, rounded down: both doubled, the half is whole.
func nearest(n, d int64) int64 { return floor(2*n+d, 2*d) }

// root tries the binary digits from the greatest one on. It counts without a sign, as the square of 32 digits needs all 64.
func root(n int64) int64 {
	var r uint64
	for i := range 32 {
		next := r | 1<<(31-i)
		if next*next <= uint64(n) {
			r = next
		}
	}
	return int64(r)
}

// beyond avoids the amount itself, which the least number of 64 bits does not have.
func beyond(n, most int64) bool { return n < -most || n > most }
