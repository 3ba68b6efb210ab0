// Package ints is layer 1: integers and bit words of three lengths, whose operations are exact or return an error. See shared/doc/01-ints.md.
package ints

import "environ/api"

// bounds are the limits of a size: its greatest integer, and the number of bits of its words.
type bounds struct {
	max   int64
	width int
}

// sizes has the limits of api.Short, api.Plain and api.Long, in this order.
var sizes = [3]bounds{
	{max: 32767, width: 16},
	{max: 2147483647, width: 32},
	{max: 999999999999999999, width: 60},
}

// limits returns the limits of a size, and false if it is none.
func limits(size int) (bounds, bool) {
	if size < api.Short || size > api.Long {
		return bounds{}, false
	}
	return sizes[size-api.Short], true
}

// checkInts returns the error of an operation's size, or else of its integers.
func checkInts(size int, operands ...int64) api.Errno {
	if _, ok := limits(size); !ok {
		return api.ErrArg
	}
	for _, n := range operands {
		if !Is(size, n) {
			return api.ErrRange
		}
	}
	return api.OK
}

// checkWords returns the error of an operation's size, or else of its words.
func checkWords(size int, operands ...int64) api.Errno {
	if _, ok := limits(size); !ok {
		return api.ErrArg
	}
	for _, w := range operands {
		if !IsWord(size, w) {
			return api.ErrRange
		}
	}
	return api.OK
}

// integer returns n as the result of an operation, or ErrRange if it is not an integer of the size.
func integer(size int, n int64) (int64, api.Errno) {
	if !Is(size, n) {
		return 0, api.ErrRange
	}
	return n, api.OK
}

// magnitude returns the absolute value of an integer of any size, all of which have one.
func magnitude(n int64) int64 {
	if n < 0 {
		return -n
	}
	return n
}

// Max returns the greatest integer of a size.
func Max(size int) (int64, api.Errno) {
	l, ok := limits(size)
	if !ok {
		return 0, api.ErrArg
	}
	return l.max, api.OK
}

// Width returns the number of bits of a word of a size.
func Width(size int) (int, api.Errno) {
	l, ok := limits(size)
	if !ok {
		return 0, api.ErrArg
	}
	return l.width, api.OK
}

// Is reports whether n is an integer of a size.
func Is(size int, n int64) bool {
	l, ok := limits(size)
	return ok && -l.max <= n && n <= l.max
}

// IsWord reports whether w is a word of a size.
func IsWord(size int, w int64) bool {
	l, ok := limits(size)
	return ok && 0 <= w && w <= mask(l.width)
}

// Add returns the sum.
func Add(size int, a, b int64) (int64, api.Errno) {
	if e := checkInts(size, a, b); e != api.OK {
		return 0, e
	}
	return integer(size, a+b)
}

// Sub returns the difference.
func Sub(size int, a, b int64) (int64, api.Errno) {
	if e := checkInts(size, a, b); e != api.OK {
		return 0, e
	}
	return integer(size, a-b)
}

// Mul returns the product.
func Mul(size int, a, b int64) (int64, api.Errno) {
	if e := checkInts(size, a, b); e != api.OK {
		return 0, e
	}
	return product(size, a, b)
}

// product multiplies integers of a size. It divides first, because the product of long integers may not fit an int64.
func product(size int, a, b int64) (int64, api.Errno) {
	l, _ := limits(size)
	if b != 0 && magnitude(a) > l.max/magnitude(b) {
		return 0, api.ErrRange
	}
	return a * b, api.OK
}

// Over returns the quotient rounded towards 0.
func Over(size int, a, b int64) (int64, api.Errno) {
	if e := checkInts(size, a, b); e != api.OK {
		return 0, e
	}
	if b == 0 {
		return 0, api.ErrRange
	}
	return a / b, api.OK
}

// Mod returns the number from 0 to |b| - 1 that differs from a by a multiple of b.
func Mod(size int, a, b int64) (int64, api.Errno) {
	if e := checkInts(size, a, b); e != api.OK {
		return 0, e
	}
	if b == 0 {
		return 0, api.ErrRange
	}
	m := a % b
	if m < 0 {
		m += magnitude(b)
	}
	return m, api.OK
}

// Pow returns a to the power of n.
func Pow(size int, a, n int64) (int64, api.Errno) {
	if e := checkInts(size, a); e != api.OK {
		return 0, e
	}
	if n < 0 {
		return 0, api.ErrRange
	}
	if magnitude(a) <= 1 {
		return powUnit(a, n), api.OK
	}
	// Each factor at least doubles the power, so that it leaves the size after few of them, however great n is.
	p := int64(1)
	for range n {
		var e api.Errno
		if p, e = product(size, p, a); e != api.OK {
			return 0, e
		}
	}
	return p, api.OK
}

// powUnit returns the power of 0, 1 or -1, for which n may be too great to count to.
func powUnit(a, n int64) int64 {
	switch {
	case n == 0:
		return 1
	case n%2 == 0:
		return a * a
	}
	return a
}

// Neg returns the negative.
func Neg(size int, a int64) (int64, api.Errno) {
	if e := checkInts(size, a); e != api.OK {
		return 0, e
	}
	return -a, api.OK
}

// Abs returns the absolute value.
func Abs(size int, a int64) (int64, api.Errno) {
	if e := checkInts(size, a); e != api.OK {
		return 0, e
	}
	return magnitude(a), api.OK
}

// Sign returns -1, 0 or 1.
func Sign(size int, a int64) (int64, api.Errno) {
	if e := checkInts(size, a); e != api.OK {
		return 0, e
	}
	switch {
	case a < 0:
		return -1, api.OK
	case a > 0:
		return 1, api.OK
	}
	return 0, api.OK
}

// Odd reports whether a is odd.
func Odd(size int, a int64) (bool, api.Errno) {
	if e := checkInts(size, a); e != api.OK {
		return false, e
	}
	return a%2 != 0, api.OK
}

// Leng returns the same integer of the next size.
func Leng(size int, a int64) (int64, api.Errno) {
	if size == api.Long {
		return 0, api.ErrArg
	}
	if e := checkInts(size, a); e != api.OK {
		return 0, e
	}
	return a, api.OK
}

// Shorten returns the same integer of the size before.
func Shorten(size int, a int64) (int64, api.Errno) {
	if size == api.Short {
		return 0, api.ErrArg
	}
	if e := checkInts(size, a); e != api.OK {
		return 0, e
	}
	return integer(size-1, a)
}
