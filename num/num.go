// Package num is layer 1: see shared/doc/01-num.md.
package num

import (
	"math"

	"ropeway/api"
)

// The kinds of numbers.
const (
	Nan = iota
	Infinite
	Normal
	Subnormal
	Zero
)

const (
	nanBits     = 0x7FF8000000000001
	leastNormal = 0x1p-1022
	// All of the fraction's bits and none of the exponent's: one step below leastNormal.
	topSubnormalBits = 0x000FFFFFFFFFFFFF
)

// Bits: a number's bits, in one form.
func Bits(x float64) uint64 {
	if math.IsNaN(x) {
		return nanBits
	}
	return math.Float64bits(x)
}

// Of: the number of bits.
func Of(bits uint64) float64 {
	x := math.Float64frombits(bits)
	if math.IsNaN(x) {
		return math.Float64frombits(nanBits)
	}
	return x
}

// Same: are they the same?
func Same(a, b float64) bool {
	return Bits(a) == Bits(b)
}

// Kind: what kind of number it is.
func Kind(x float64) int {
	switch {
	case math.IsNaN(x):
		return Nan
	case math.IsInf(x, 0):
		return Infinite
	case x == 0:
		return Zero
	case math.Abs(x) < leastNormal:
		return Subnormal
	}
	return Normal
}

// Less: is the one ahead of the other?
func Less(a, b float64) bool {
	switch {
	case math.IsNaN(a):
		return false
	case math.IsNaN(b):
		return true
	case a == 0 && b == 0:
		// The language holds the two zeros for equal; only their signs tell them apart.
		return math.Signbit(a) && !math.Signbit(b)
	}
	return a < b
}

// Top: the last one of a kind.
func Top(kind int) (float64, api.Errno) {
	switch kind {
	case Nan:
		return Of(nanBits), api.OK
	case Infinite:
		return math.Inf(1), api.OK
	case Normal:
		return math.MaxFloat64, api.OK
	case Subnormal:
		return Of(topSubnormalBits), api.OK
	case Zero:
		return 0, api.OK
	}
	return 0, api.ErrNum
}
