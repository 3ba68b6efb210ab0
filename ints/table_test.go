package ints_test

import (
	"math"
	"testing"

	"environ/api"
	"environ/ints"
)

// The functions, by what they take: everything that is tested of all of them goes through these tables. Bools count as 0 and 1.

type unary func(size int, a int64) (int64, api.Errno)
type binary func(size int, a, b int64) (int64, api.Errno)

func number(b bool) int64 {
	if b {
		return 1
	}
	return 0
}

func unaries() map[string]unary {
	return map[string]unary{
		"Neg":         ints.Neg,
		"Abs":         ints.Abs,
		"Sign":        ints.Sign,
		"Leng":        ints.Leng,
		"Shorten":     ints.Shorten,
		"Not":         ints.Not,
		"Bin":         ints.Bin,
		"AbsWord":     ints.AbsWord,
		"LengWord":    ints.LengWord,
		"ShortenWord": ints.ShortenWord,
		"Odd": func(size int, a int64) (int64, api.Errno) {
			odd, e := ints.Odd(size, a)
			return number(odd), e
		},
		"Max":    func(size int, _ int64) (int64, api.Errno) { return ints.Max(size) },
		"Is":     func(size int, a int64) (int64, api.Errno) { return number(ints.Is(size, a)), api.OK },
		"IsWord": func(size int, a int64) (int64, api.Errno) { return number(ints.IsWord(size, a)), api.OK },
		"Width": func(size int, _ int64) (int64, api.Errno) {
			width, e := ints.Width(size)
			return int64(width), e
		},
	}
}

func binaries() map[string]binary {
	return map[string]binary{
		"Add":   ints.Add,
		"Sub":   ints.Sub,
		"Mul":   ints.Mul,
		"Over":  ints.Over,
		"Mod":   ints.Mod,
		"Pow":   ints.Pow,
		"And":   ints.And,
		"Or":    ints.Or,
		"Shift": ints.Shift,
		"Elem": func(size int, i, w int64) (int64, api.Errno) {
			is, e := ints.Elem(size, i, w)
			return number(is), e
		},
	}
}

var goodSizes = []int{api.Short, api.Plain, api.Long}

var badSizes = []int{-2, 2, 3, 5, -100, math.MinInt, math.MinInt + 1, math.MaxInt, math.MaxInt - 1, math.MinInt32, math.MaxInt32, 1 << 40}

// edges are numbers in, at and beyond the limits of all sizes, and the ends of int64.
func edges() []int64 {
	l := []int64{0, math.MinInt64, math.MinInt64 + 1, math.MaxInt64, math.MaxInt64 - 1, 32769, 21845, 46340, 46341, 999999999, 1000000000, 1000000001, 181, 182}
	for n := int64(1); n <= 19; n++ {
		l = append(l, n, -n)
	}
	for _, n := range []int64{32767, 65535, 2147483647, 4294967295, 999999999999999999, 1<<60 - 1, 1 << 62} {
		l = append(l, n-1, n, n+1, n/2, 1-n, -n, -n-1, -(n / 2))
	}
	for _, n := range []int64{15, 16, 17, 31, 32, 33, 59, 60, 61, 63, 64, 65} {
		l = append(l, n, -n)
	}
	return l
}

// expect fails the test unless a call has the result that it must have.
func expect(t *testing.T, call string, wantNumber int64, wantErrno api.Errno, gotNumber int64, gotErrno api.Errno) {
	t.Helper()
	if wantNumber != gotNumber || wantErrno != gotErrno {
		t.Errorf("%s is %d, %d, not %d, %d", call, gotNumber, int(gotErrno), wantNumber, int(wantErrno))
	}
}
