package views

import "math/bits"

// wide is a number of 128 bits: a sum may go beyond 64 bits and come back ahead of its end.
type wide struct {
	high int64
	low  uint64
}

// add is the sum of a number and another one, or, by -1, what is left without it.
func (w wide) add(n int64, by int) wide {
	sign := n >> 63
	if by < 0 {
		low, borrow := bits.Sub64(w.low, uint64(n), 0)
		return wide{w.high - sign - int64(borrow), low}
	}
	low, carry := bits.Add64(w.low, uint64(n), 0)
	return wide{w.high + sign + int64(carry), low}
}

// fits tells whether it is a number of 64 bits.
func (w wide) fits() bool { return w.high == int64(w.low)>>63 }
