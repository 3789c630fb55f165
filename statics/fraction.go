package statics

import "math/bits"

// fraction is n / d, where d is above 0.
type fraction struct {
	n, d int64
}

// up returns so many times the fraction, rounded up.
func (f fraction) up(times int64) int64 { return -f.down(-times) }

// down returns so many times the fraction, rounded down. The product may need more than 64 bits, the result must not.
func (f fraction) down(times int64) int64 {
	high, low := bits.Mul64(uint64(amount(f.n)), uint64(amount(times)))
	quotient, rest := bits.Div64(high, low, uint64(f.d))
	if (f.n < 0) == (times < 0) {
		return int64(quotient)
	}
	if rest > 0 {
		quotient++
	}
	return -int64(quotient)
}

func amount(n int64) int64 { return max(n, -n) }
