// Package amount is layer 1: see shared/doc/01-amount.md.
package amount

import (
	"cmp"
	"math"
	"math/bits"
	"slices"

	"chattel/api"
)

const maxWeights = 64

// Add is a sum.
func Add(a, b int) (int, api.Errno) {
	sum := a + b
	// Only a sum that wrapped round has a sign that neither number has.
	if (a^sum)&(b^sum) < 0 {
		return 0, api.ErrOver
	}
	return sum, api.OK
}

// Neg is a number, less than nought.
func Neg(a int) (int, api.Errno) {
	if a == math.MinInt {
		return 0, api.ErrOver
	}
	return -a, api.OK
}

// Mul is a product.
func Mul(a, b int) (int, api.Errno) {
	high, low := bits.Mul64(size(a), size(b))
	if high != 0 {
		return 0, api.ErrOver
	}
	return signed(low, (a < 0) != (b < 0))
}

// Sum is the sum of all, whatever the order.
func Sum(l ...int) (int, api.Errno) {
	// 128 bits in two's complement: sums of some may leave 64 bits and come back.
	var high, low, carry uint64
	for _, n := range l {
		low, carry = bits.Add64(low, uint64(n), 0)
		high += signBits(n) + carry
	}
	sum := int(low)
	if high != signBits(sum) {
		return 0, api.ErrOver
	}
	return sum, api.OK
}

// MulDiv is a times b through c, rounded to the nearest number, to an even one of two.
func MulDiv(a, b, c int) (int, api.Errno) {
	if c == 0 {
		return 0, api.ErrZero
	}
	by := size(c)
	high, low := bits.Mul64(size(a), size(b))
	// Div64 panics where the quotient takes more than 64 bits.
	if high >= by {
		return 0, api.ErrOver
	}
	quotient, rest := bits.Div64(high, low, by)
	nearest, carry := bits.Add64(quotient, roundUp(quotient, rest, by), 0)
	if carry != 0 {
		return 0, api.ErrOver
	}
	return signed(nearest, (a < 0) != (b < 0) != (c < 0))
}

// Split is an amount in parts as weights tell, that come to it.
func Split(total int, weights ...int) ([]int, api.Errno) {
	sum, e := weigh(weights)
	if e != api.OK {
		return nil, e
	}
	if total == math.MinInt {
		return nil, api.ErrOver
	}
	if sum == 0 {
		return nil, api.ErrZero
	}
	parts := share(size(total), uint64(sum), weights)
	if total < 0 {
		for i := range parts {
			parts[i] = -parts[i]
		}
	}
	return parts, api.OK
}

// weigh is the sum of weights that may be.
func weigh(weights []int) (int, api.Errno) {
	if len(weights) < 1 || len(weights) > maxWeights {
		return 0, api.ErrArg
	}
	if slices.Min(weights) < 0 {
		return 0, api.ErrRange
	}
	return Sum(weights...)
}

// share is total in parts. Sum is that of the weights, above 0; total is below 2^63.
func share(total, sum uint64, weights []int) []int {
	parts := make([]int, len(weights))
	cut := make([]uint64, len(weights))
	left := total
	for i, w := range weights {
		// No weight is above sum, so no part is above total: Div64 has room.
		high, low := bits.Mul64(total, uint64(w))
		part, rest := bits.Div64(high, low, sum)
		parts[i], cut[i] = int(part), rest
		left -= part
	}
	giveAway(left, parts, cut)
	return parts
}

// giveAway adds 1 to each of as many parts as are left, those first of which most was cut off.
func giveAway(left uint64, parts []int, cut []uint64) {
	order := make([]int, len(parts))
	for i := range order {
		order[i] = i
	}
	// Stable, since of as much that was cut off the first ones are to get it.
	slices.SortStableFunc(order, func(i, j int) int {
		return cmp.Compare(cut[j], cut[i])
	})
giving:
	for _, i := range order {
		if left == 0 {
			break giving
		}
		parts[i]++
		left--
	}
}

// size is a number without its sign; unsigned, so that of - 2^63 fits.
func size(a int) uint64 {
	if a < 0 {
		return -uint64(a)
	}
	return uint64(a)
}

// signed is the number of a size, less than nought if below.
func signed(size uint64, below bool) (int, api.Errno) {
	if below {
		if size > 1<<63 {
			return 0, api.ErrOver
		}
		return int(-size), api.OK
	}
	if size > math.MaxInt {
		return 0, api.ErrOver
	}
	return int(size), api.OK
}

// signBits are the 64 bits above a number, if it is made 128 bits wide.
func signBits(a int) uint64 {
	if a < 0 {
		return math.MaxUint64
	}
	return 0
}

// roundUp is 1, if the number above the quotient is nearer, or as near and even; else 0.
func roundUp(quotient, rest, by uint64) uint64 {
	// Not twice the rest against by: that may not fit.
	short := by - rest
	if rest > short || rest == short && quotient%2 == 1 {
		return 1
	}
	return 0
}
