// Package num is layer 1: numbers that do not run over, and their bytes.
package num

import (
	"math"

	"cohort/api"
)

// mostPercent is the greatest percentage that Part takes.
const mostPercent = 1000

// Add tells a and b together; ErrOver, if that is no int64.
func Add(a, b int64) (int64, api.Errno) {
	if sumOver(a, b) {
		return 0, api.ErrOver
	}
	return a + b, api.OK
}

// sumOver asks ahead of the sum whether it would run over.
func sumOver(a, b int64) bool {
	if b > 0 {
		return a > math.MaxInt64-b
	}
	return a < math.MinInt64-b
}

// Mul tells a times b; ErrOver, if that is no int64.
func Mul(a, b int64) (int64, api.Errno) {
	if productOver(a, b) {
		return 0, api.ErrOver
	}
	return a * b, api.OK
}

// productOver asks ahead of the product whether it would run over. Each
// quotient by which it asks is cut towards 0: a whole number is above (below)
// a bound just if it is above (below) that bound so cut. A bound is never
// divided where the quotient itself would run over (the least number by -1).
func productOver(a, b int64) bool {
	switch {
	case a == 0 || b == 0:
		return false
	case a > 0 && b > 0:
		return a > math.MaxInt64/b
	case a > 0:
		return b < math.MinInt64/a
	case b > 0:
		return a < math.MinInt64/b
	}
	return a < math.MaxInt64/b
}

// Up tells a by b, up to a whole number; ErrArg, if b is below 1.
func Up(a, b int64) (int64, api.Errno) {
	if b < 1 {
		return 0, api.ErrArg
	}
	q := a / b
	// The language cuts towards 0: below 0 that is up already.
	if a%b > 0 {
		q++
	}
	return q, api.OK
}

// Part tells so many percent of n, up to a whole number; ErrArg, if percent is
// not from 0 to 1000, or n is below 0; ErrOver, if n by percent is no int64.
func Part(n, percent int64) (int64, api.Errno) {
	if percent < 0 || percent > mostPercent || n < 0 {
		return 0, api.ErrArg
	}
	whole, e := Mul(n, percent)
	if e != api.OK {
		return 0, e
	}
	return Up(whole, 100)
}

// Clamp tells n, or the bound that it is beyond; of a low above high low.
func Clamp(n, low, high int64) int64 {
	return max(low, min(n, high))
}

// Put tells the bytes of n, the lowest first; ErrArg, if the size is none, or
// n has no room in it.
func Put(n uint64, size int) ([]byte, api.Errno) {
	if !isSize(size) || n>>(8*size) != 0 {
		return nil, api.ErrArg
	}
	b := make([]byte, size)
	for i := range b {
		b[i] = byte(n >> (8 * i))
	}
	return b, api.OK
}

// Get tells the number whose bytes stand in b from at on, the lowest first;
// ErrArg, if the size is none, or at is not from 0 to the length of b;
// ErrShort, if fewer bytes stand there.
func Get(b []byte, at, size int) (uint64, api.Errno) {
	if !isSize(size) || at < 0 || at > len(b) {
		return 0, api.ErrArg
	}
	if len(b)-at < size {
		return 0, api.ErrShort
	}
	var n uint64
	for i, c := range b[at : at+size : at+size] {
		n |= uint64(c) << (8 * i)
	}
	return n, api.OK
}

// isSize asks whether numbers are kept in so many bytes.
func isSize(size int) bool {
	switch size {
	case 1, 2, 4, 8:
		return true
	}
	return false
}
