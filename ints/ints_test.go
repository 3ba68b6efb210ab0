package ints_test

import (
	"fmt"
	"math"
	"testing"

	"environ/api"
)

// unaryCase and binaryCase are calls with the results that the chapter gives them.

type unaryCase struct {
	name string
	size int
	a    int64
	want int64
	e    api.Errno
}

type binaryCase struct {
	name string
	size int
	a, b int64
	want int64
	e    api.Errno
}

func testUnary(t *testing.T, cases []unaryCase) {
	t.Helper()
	functions := unaries()
	for _, c := range cases {
		n, e := functions[c.name](c.size, c.a)
		expect(t, fmt.Sprintf("%s(%d, %d)", c.name, c.size, c.a), c.want, c.e, n, e)
	}
}

func testBinary(t *testing.T, cases []binaryCase) {
	t.Helper()
	functions := binaries()
	for _, c := range cases {
		n, e := functions[c.name](c.size, c.a, c.b)
		expect(t, fmt.Sprintf("%s(%d, %d, %d)", c.name, c.size, c.a, c.b), c.want, c.e, n, e)
	}
}

const (
	long = 999999999999999999
	all1 = 1<<60 - 1
)

// P1.1
func TestSizes(t *testing.T) {
	testUnary(t, []unaryCase{
		{"Max", -1, 0, 32767, api.OK},
		{"Max", 0, 0, 2147483647, api.OK},
		{"Max", 1, 0, long, api.OK},
		{"Max", 2, 0, 0, api.ErrArg},
		{"Max", -2, 0, 0, api.ErrArg},
		{"Width", -1, 0, 16, api.OK},
		{"Width", 0, 0, 32, api.OK},
		{"Width", 1, 0, 60, api.OK},
		{"Width", math.MaxInt, 0, 0, api.ErrArg},
		{"Width", math.MinInt, 0, 0, api.ErrArg},
		{"Is", -1, 32767, 1, api.OK},
		{"Is", -1, 32768, 0, api.OK},
		{"Is", -1, -32767, 1, api.OK},
		{"Is", -1, -32768, 0, api.OK},
		{"Is", 0, 2147483648, 0, api.OK},
		{"Is", 0, -2147483648, 0, api.OK},
		{"Is", 1, long, 1, api.OK},
		{"Is", 1, long + 1, 0, api.OK},
		{"Is", 1, math.MinInt64, 0, api.OK},
		{"Is", 2, 0, 0, api.OK},
		{"IsWord", -1, 65535, 1, api.OK},
		{"IsWord", -1, 65536, 0, api.OK},
		{"IsWord", 0, 4294967295, 1, api.OK},
		{"IsWord", 0, 4294967296, 0, api.OK},
		{"IsWord", 1, all1, 1, api.OK},
		{"IsWord", 1, all1 + 1, 0, api.OK},
		{"IsWord", 1, math.MaxInt64, 0, api.OK},
		{"IsWord", 0, -1, 0, api.OK},
		{"IsWord", 1, math.MinInt64, 0, api.OK},
		{"IsWord", -2, 0, 0, api.OK},
	})
}

// P1.2
func TestSums(t *testing.T) {
	testBinary(t, []binaryCase{
		{"Add", 0, 3, 4, 7, api.OK},
		{"Add", -1, 32767, 1, 0, api.ErrRange},
		{"Add", -1, -32767, -1, 0, api.ErrRange},
		{"Add", 1, long, long, 0, api.ErrRange},
		{"Add", 1, long, -long, 0, api.OK},
		{"Sub", 0, 3, 4, -1, api.OK},
		{"Sub", -1, -32767, 1, 0, api.ErrRange},
		{"Sub", -1, 32767, -1, 0, api.ErrRange},
		{"Sub", 1, -long, long, 0, api.ErrRange},
		{"Mul", 0, -3, 4, -12, api.OK},
		{"Mul", -1, 181, 181, 32761, api.OK},
		{"Mul", -1, 182, 181, 0, api.ErrRange},
		{"Mul", 1, long, long, 0, api.ErrRange},
		{"Mul", 1, long, -1, -long, api.OK},
		{"Mul", 1, 1 << 32, 1 << 32, 0, api.ErrRange},
		{"Mul", 1, long, 0, 0, api.OK},
		{"Mul", 1, 0, -long, 0, api.OK},
		{"Add", 0, 2147483648, -1, 0, api.ErrRange},
		{"Sub", 0, 2147483648, 1, 0, api.ErrRange},
		{"Mul", 0, 2147483648, 0, 0, api.ErrRange},
		{"Mul", 0, 0, math.MinInt64, 0, api.ErrRange},
	})
	testUnary(t, []unaryCase{
		{"Neg", 1, long, -long, api.OK},
		{"Neg", 0, math.MinInt64, 0, api.ErrRange},
		{"Abs", -1, -32767, 32767, api.OK},
		{"Abs", -1, -32768, 0, api.ErrRange},
		{"Sign", 0, -2147483647, -1, api.OK},
		{"Sign", 0, 0, 0, api.OK},
		{"Sign", 0, 5, 1, api.OK},
		{"Sign", 0, 2147483648, 0, api.ErrRange},
		{"Odd", 0, -3, 1, api.OK},
		{"Odd", 0, 3, 1, api.OK},
		{"Odd", 0, -4, 0, api.OK},
		{"Odd", -1, 32769, 0, api.ErrRange},
	})
}

// P1.2
func TestQuotients(t *testing.T) {
	testBinary(t, []binaryCase{
		{"Over", 0, -7, 2, -3, api.OK},
		{"Over", 0, 7, -2, -3, api.OK},
		{"Over", 0, -7, -2, 3, api.OK},
		{"Over", 0, 7, 2, 3, api.OK},
		{"Over", 0, 0, 5, 0, api.OK},
		{"Over", 0, 7, 0, 0, api.ErrRange},
		{"Over", 0, 0, 0, 0, api.ErrRange},
		{"Over", 1, -long, -1, long, api.OK},
		{"Over", 1, math.MinInt64, -1, 0, api.ErrRange},
		{"Mod", 0, -7, 2, 1, api.OK},
		{"Mod", 0, 7, -2, 1, api.OK},
		{"Mod", 0, -7, -3, 2, api.OK},
		{"Mod", 0, -6, -3, 0, api.OK},
		{"Mod", 0, -1, 2147483647, 2147483646, api.OK},
		{"Mod", 0, 7, 0, 0, api.ErrRange},
		{"Mod", 1, math.MinInt64, -1, 0, api.ErrRange},
	})
}

// P1.2
func TestPowers(t *testing.T) {
	testBinary(t, []binaryCase{
		{"Pow", 0, 2, 30, 1073741824, api.OK},
		{"Pow", 0, 2, 31, 0, api.ErrRange},
		{"Pow", 0, -2, 31, 0, api.ErrRange},
		{"Pow", 1, -2, 59, -576460752303423488, api.OK},
		{"Pow", 1, 2, 60, 0, api.ErrRange},
		{"Pow", 1, 2, 64, 0, api.ErrRange},
		{"Pow", 1, 10, 17, 100000000000000000, api.OK},
		{"Pow", 1, 10, 18, 0, api.ErrRange},
		{"Pow", -1, 181, 2, 32761, api.OK},
		{"Pow", -1, 32767, 1, 32767, api.OK},
		{"Pow", -1, 32768, 0, 0, api.ErrRange},
		{"Pow", 0, 0, 0, 1, api.OK},
		{"Pow", 0, 5, 0, 1, api.OK},
		{"Pow", 0, 1, -1, 0, api.ErrRange},
		{"Pow", 0, 1, math.MinInt64, 0, api.ErrRange},
		{"Pow", 0, -1, 9000000000000000001, -1, api.OK},
		{"Pow", 0, -1, 9000000000000000000, 1, api.OK},
		{"Pow", 0, 0, math.MaxInt64, 0, api.OK},
		{"Pow", 0, 1, math.MaxInt64, 1, api.OK},
		{"Pow", 0, 2, math.MaxInt64, 0, api.ErrRange},
		{"Pow", 1, long, math.MaxInt64, 0, api.ErrRange},
	})
}

// P1.3
func TestLengths(t *testing.T) {
	testUnary(t, []unaryCase{
		{"Leng", -1, -32767, -32767, api.OK},
		{"Leng", 0, 2147483647, 2147483647, api.OK},
		{"Leng", -1, 32768, 0, api.ErrRange},
		{"Leng", 1, 5, 0, api.ErrArg},
		{"Shorten", 1, -2147483647, -2147483647, api.OK},
		{"Shorten", 1, -2147483648, 0, api.ErrRange},
		{"Shorten", 0, 32767, 32767, api.OK},
		{"Shorten", 0, 32768, 0, api.ErrRange},
		{"Shorten", 1, math.MinInt64, 0, api.ErrRange},
		{"Shorten", -1, 1, 0, api.ErrArg},
	})
}

// P1.4
func TestBits(t *testing.T) {
	testUnary(t, []unaryCase{
		{"Not", -1, 1, 65534, api.OK},
		{"Not", 0, 0, 4294967295, api.OK},
		{"Not", 1, 0, all1, api.OK},
		{"Not", -1, 65536, 0, api.ErrRange},
		{"Not", -1, -1, 0, api.ErrRange},
		{"Bin", 0, 2147483647, 2147483647, api.OK},
		{"Bin", 0, 2147483648, 0, api.ErrRange},
		{"Bin", 1, long, long, api.OK},
		{"Bin", -1, -1, 0, api.ErrRange},
		{"AbsWord", -1, 32767, 32767, api.OK},
		{"AbsWord", -1, 32768, 0, api.ErrRange},
		{"AbsWord", 1, long, long, api.OK},
		{"AbsWord", 1, long + 1, 0, api.ErrRange},
		{"AbsWord", 0, -1, 0, api.ErrRange},
		{"LengWord", -1, 65535, 65535, api.OK},
		{"LengWord", 0, 4294967295, 4294967295, api.OK},
		{"LengWord", -1, 65536, 0, api.ErrRange},
		{"LengWord", 1, 5, 0, api.ErrArg},
		{"ShortenWord", 0, 65535, 65535, api.OK},
		{"ShortenWord", 0, 65536, 0, api.ErrRange},
		{"ShortenWord", 1, 4294967295, 4294967295, api.OK},
		{"ShortenWord", 1, 4294967296, 0, api.ErrRange},
		{"ShortenWord", -1, 5, 0, api.ErrArg},
	})
	testBinary(t, []binaryCase{
		{"And", 0, 12, 10, 8, api.OK},
		{"And", 0, 12, 1 << 32, 0, api.ErrRange},
		{"And", 0, -1, 0, 0, api.ErrRange},
		{"Or", 0, 12, 10, 14, api.OK},
		{"Or", 1, 1 << 59, 1, 1<<59 + 1, api.OK},
		{"Or", -1, 65536, 0, 0, api.ErrRange},
		{"Elem", -1, 1, 32768, 1, api.OK},
		{"Elem", -1, 16, 32768, 0, api.OK},
		{"Elem", -1, 16, 1, 1, api.OK},
		{"Elem", 0, 32, 1, 1, api.OK},
		{"Elem", 1, 1, 1 << 59, 1, api.OK},
		{"Elem", 1, 60, 1, 1, api.OK},
		{"Elem", -1, 0, 1, 0, api.ErrRange},
		{"Elem", -1, 17, 1, 0, api.ErrRange},
		{"Elem", 0, math.MaxInt64, 1, 0, api.ErrRange},
		{"Elem", 0, math.MinInt64, 1, 0, api.ErrRange},
		{"Elem", -1, 1, 65536, 0, api.ErrRange},
	})
}

// P1.4
func TestShifts(t *testing.T) {
	testBinary(t, []binaryCase{
		{"Shift", -1, 32769, 1, 2, api.OK},
		{"Shift", -1, 32769, -1, 16384, api.OK},
		{"Shift", -1, 32769, -15, 1, api.OK},
		{"Shift", -1, 32769, 15, 32768, api.OK},
		{"Shift", -1, 65535, 16, 0, api.OK},
		{"Shift", -1, 65535, -16, 0, api.OK},
		{"Shift", -1, 65535, 17, 0, api.OK},
		{"Shift", 0, 1, 31, 1 << 31, api.OK},
		{"Shift", 0, 1, 32, 0, api.OK},
		{"Shift", 0, 1 << 31, -31, 1, api.OK},
		{"Shift", 1, all1, 59, 1 << 59, api.OK},
		{"Shift", 1, all1, -59, 1, api.OK},
		{"Shift", 1, all1, 60, 0, api.OK},
		{"Shift", 1, all1, 64, 0, api.OK},
		{"Shift", 1, all1, -64, 0, api.OK},
		{"Shift", 1, all1, 0, all1, api.OK},
		{"Shift", 1, all1, math.MaxInt64, 0, api.OK},
		{"Shift", 1, all1, math.MinInt64, 0, api.OK},
		{"Shift", 1, all1 + 1, 0, 0, api.ErrRange},
		{"Shift", -1, -1, 100, 0, api.ErrRange},
	})
}

// The order of the errors: a size that is none comes before everything else.
func TestOrderOfErrors(t *testing.T) {
	for _, size := range badSizes {
		for name, f := range unaries() {
			if name == "Is" || name == "IsWord" {
				continue
			}
			n, e := f(size, math.MinInt64)
			expect(t, fmt.Sprintf("%s(%d, least)", name, size), 0, api.ErrArg, n, e)
		}
		for name, f := range binaries() {
			n, e := f(size, math.MinInt64, 0)
			expect(t, fmt.Sprintf("%s(%d, least, 0)", name, size), 0, api.ErrArg, n, e)
		}
	}
	testUnary(t, []unaryCase{
		{"Leng", 1, math.MaxInt64, 0, api.ErrArg},
		{"Shorten", -1, math.MaxInt64, 0, api.ErrArg},
		{"LengWord", 1, -1, 0, api.ErrArg},
		{"ShortenWord", -1, -1, 0, api.ErrArg},
	})
}
