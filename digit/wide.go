package digit

import "math/bits"

// wide is a number of 128 bits, as its two's complement: on their way sums and products need more room than they come to.
type wide struct {
	high, low uint64
}

func widen(n int64) wide {
	return wide{uint64(n >> 63), uint64(n)}
}

func (w wide) plus(v wide) wide {
	low, carry := bits.Add64(w.low, v.low, 0)
	high, _ := bits.Add64(w.high, v.high, carry)
	return wide{high, low}
}

func times(a, b int64) wide {
	high, low := bits.Mul64(uint64(a), uint64(b))
	// Mul64 takes a number below 0 for one that is 2^64 more: the other one is in high once too often.
	if a < 0 {
		high -= uint64(b)
	}
	if b < 0 {
		high -= uint64(a)
	}
	return wide{high, low}
}

// narrow tells the number, if it fits.
func (w wide) narrow() (int64, bool) {
	n := int64(w.low)
	if w != widen(n) {
		return 0, false
	}
	return n, true
}
