package ratio

import (
	"math"
	"math/bits"

	"chattel/api"
)

// wide is a number of 128 bits, in two's complement: two products of parts of ratios fit in it.
type wide struct {
	high, low uint64
}

// crossed is two ratios multiplied crosswise: each Num by the other one's Den, without what both
// Dens share; and that.
type crossed struct {
	wide
	shared int
}

// cross multiplies two ratios crosswise, and adds.
func cross(a, b api.Ratio) crossed {
	c := crossed{shared: common(a.Den, b.Den)}
	c.add(a.Num, b.Den/c.shared)
	c.add(b.Num, a.Den/c.shared)
	return c
}

// add adds x times y.
func (w *wide) add(x, y int) {
	high, low := bits.Mul64(size(x), size(y))
	var carry uint64
	if (x < 0) != (y < 0) {
		w.low, carry = bits.Sub64(w.low, low, 0)
		w.high, _ = bits.Sub64(w.high, high, carry)
		return
	}
	w.low, carry = bits.Add64(w.low, low, 0)
	w.high, _ = bits.Add64(w.high, high, carry)
}

// sign is -1, 0 or 1.
func (w *wide) sign() int {
	switch {
	case int64(w.high) < 0:
		return -1
	case w.high == 0 && w.low == 0:
		return 0
	}
	return 1
}

// size is the number without its sign.
func (w *wide) size() (high, low uint64) {
	if w.sign() >= 0 {
		return w.high, w.low
	}
	low, borrow := bits.Sub64(0, w.low, 0)
	high, _ = bits.Sub64(0, w.high, borrow)
	return high, low
}

// rest is what a division of its size through by, above 0, leaves.
func (w *wide) rest(by int) int {
	high, low := w.size()
	return int(bits.Rem64(high, low, uint64(by)))
}

// through is the number through one of its divisors, above 0.
func (w *wide) through(by int) (int, api.Errno) {
	high, low := w.size()
	// Div64 panics where the quotient takes more than 64 bits.
	if high >= uint64(by) {
		return 0, api.ErrOver
	}
	quotient, _ := bits.Div64(high, low, uint64(by))
	if quotient > math.MaxInt {
		return 0, api.ErrOver
	}
	return w.sign() * int(quotient), api.OK
}
