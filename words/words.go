// Package words is layer 1: words of 32 bits: see shared/doc/01-words.md.
package words

import (
	"math/bits"

	"zoetrope/api"
)

const (
	width   = 32
	whole   = 1 << width
	half    = 1 << (width - 1)
	highest = half - 1
	lowest  = -half
)

// meaning is wide enough that no sum, no difference, no quotient of two meanings leaves it.
func meaning(a uint32, signed bool) int64 {
	if signed && a >= half {
		return int64(a) - whole
	}
	return int64(a)
}

func leaves(n int64) bool { return n < lowest || n > highest }

// Add, Sub: and whether it leaves the numbers with a sign.
func Add(a, b uint32) (uint32, bool) {
	return a + b, leaves(meaning(a, true) + meaning(b, true))
}

func Sub(a, b uint32) (uint32, bool) {
	return a - b, leaves(meaning(a, true) - meaning(b, true))
}

// Mul is a product's high and low word; Div a quotient and what is left.
func Mul(a, b uint32, signed bool) (uint32, uint32) {
	// Without a sign the product may be above 2^63: as uint64 it is still whole, and one below 0 is the one modulo 2^64.
	p := uint64(meaning(a, signed)) * uint64(meaning(b, signed))
	return uint32(p >> width), uint32(p)
}

func Div(a, b uint32, signed bool) (uint32, uint32, api.Errno) {
	if b == 0 {
		return 0, 0, api.ErrWordsZero
	}
	x, y := meaning(a, signed), meaning(b, signed)
	return uint32(x / y), uint32(x % y), api.OK
}

// Less tells whether one is below another one.
func Less(a, b uint32, signed bool) bool {
	return meaning(a, signed) < meaning(b, signed)
}

// Shift shifts; Ext extends the low bits; Lead is how many bits ahead are like one.
func Shift(kind int, a uint32, n int) uint32 {
	by := n & (width - 1) // the mask, unlike %, is never below 0
	switch kind {
	case api.ShiftLeft:
		return a << by
	case api.ShiftRight:
		return a >> by
	case api.ShiftArith:
		return uint32(meaning(a, true) >> by)
	}
	return a
}

func Ext(a uint32, bits int, signed bool) uint32 {
	if bits < 1 || bits >= width {
		return a
	}
	mask := uint32(1)<<bits - 1
	low := a & mask
	if signed && low>>(bits-1) == 1 {
		return low | ^mask
	}
	return low
}

func Lead(a uint32, one bool) int {
	if one {
		a = ^a
	}
	return bits.LeadingZeros32(a)
}
