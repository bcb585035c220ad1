// Package order is layer 1: see shared/doc/01-order.md.
package order

import "math"

// highest is the highest bit of a number: set where a sign is written.
const highest uint64 = 1 << 63

// noneKey is the key of all numbers that are none: above that of +Inf.
const noneKey uint64 = math.MaxUint64

// Canon: a number as it is kept: of the numbers that are none one, of noughts that without a sign.
func Canon(x float64) float64 {
	if None(x) {
		return math.NaN()
	}
	if x == 0 { // both noughts do
		return 0
	}
	return x
}

// Key: bits that rise with numbers; those that are none come last.
func Key(x float64) uint64 {
	if None(x) {
		return noneKey
	}
	bits := math.Float64bits(Canon(x))
	if bits&highest != 0 { // below 0 bits fall as numbers rise
		return ^bits
	}
	return bits | highest
}

// Back: the number of a key; false: it is none's.
func Back(k uint64) (float64, bool) {
	bits := ^k
	if k&highest != 0 {
		bits = k &^ highest
	}
	x := Canon(math.Float64frombits(bits))
	if Key(x) != k { // bits of a nought with a sign, or of another NaN: no number is kept so
		return 0, false
	}
	return x, true
}

// Less: is one below another one? Never, if one is none.
func Less(a, b float64) bool { return a < b }

// Same: are they kept alike?
func Same(a, b float64) bool { return Key(a) == Key(b) }

// None: is it no number?
func None(x float64) bool { return math.IsNaN(x) }
