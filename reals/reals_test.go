package reals_test

import (
	"fmt"
	"math"
	"testing"

	"environ/api"
	"environ/reals"
)

const (
	near = reals.Nearest
	up   = reals.Up
	down = reals.Down
	zero = reals.Zero
)

// P2.1
func TestDigits(t *testing.T) {
	for size, want := range map[int]int{api.Short: 7, api.Plain: 15, api.Long: 18} {
		if p, e := reals.Digits(size); p != want || e != api.OK {
			t.Errorf("Digits(%d) is %d, %d", size, p, int(e))
		}
	}
	for _, size := range badSizes {
		if p, e := reals.Digits(size); p != 0 || e != api.ErrArg {
			t.Errorf("Digits(%d) is %d, %d", size, p, int(e))
		}
	}
}

// P2.1
func TestValid(t *testing.T) {
	for _, c := range []struct {
		size int
		x    api.Real
		want bool
	}{
		{-1, r(9999999, 0), true}, {-1, r(10000001, 0), false}, {-1, r(-9999999, 0), true}, {-1, r(-10000001, 0), false},
		{0, r(999999999999999, 0), true}, {0, r(1000000000000001, 0), false},
		{1, r(999999999999999999, 0), true}, {1, r(1000000000000000001, 0), false},
		{1, r(math.MaxInt64, 0), false}, {1, r(math.MinInt64, 0), false}, {1, r(math.MinInt64+1, 0), false},
		{0, r(0, 0), true}, {0, r(0, 1), false}, {0, r(0, -1), false}, {0, r(0, math.MinInt), false}, {0, r(0, math.MaxInt), false},
		{0, r(10, 0), false}, {0, r(-10, 0), false}, {0, r(20, -400), false}, {0, r(101, 0), true},
		{0, r(1, -400), true}, {0, r(1, -401), false}, {0, r(11, -401), false}, {0, r(1, math.MinInt), false},
		{-1, r(9999999, 400), true}, {-1, r(9999999, 401), false}, {-1, r(999999, 401), true}, {-1, r(999999, 402), false},
		{-1, r(9, 406), true}, {-1, r(-9, 406), true}, {-1, r(1, 407), false}, {-1, r(-1, 407), false},
		{0, r(999999999999999, 400), true}, {0, r(99999999999999, 401), true}, {0, r(9, 414), true}, {0, r(99, 414), false}, {0, r(1, 415), false},
		{1, r(999999999999999999, 400), true}, {1, r(9, 417), true}, {1, r(11, 417), false}, {1, r(1, 418), false}, {1, r(1, math.MaxInt), false},
		{2, r(1, 0), false}, {-2, r(1, 0), false}, {math.MinInt, r(0, 0), false}, {math.MaxInt, r(0, 0), false},
	} {
		if reals.Valid(c.size, c.x) != c.want {
			t.Errorf("Valid(%d, %d) is not %t", c.size, c.x, c.want)
		}
	}
}

// P2.1: Valid finds the edges valid, what is none not, and all others as the chapter defines it.
func TestValidEdges(t *testing.T) {
	for _, size := range goodSizes {
		for _, x := range edges(size) {
			if !reals.Valid(size, x) {
				t.Errorf("Valid(%d, %d) is false", size, x)
			}
		}
	}
	all := invalid()
	for _, size := range goodSizes {
		all = append(all, edges(size)...)
	}
	for _, x := range all {
		for _, size := range append(append([]int{}, goodSizes...), badSizes...) {
			if want, got := wantValid(size, x), reals.Valid(size, x); want != got {
				t.Errorf("Valid(%d, %d) is %t", size, x, got)
			}
		}
	}
}

// P2.1
func TestMake(t *testing.T) {
	for _, c := range []struct {
		size, how int
		m         int64
		e         int
		want      api.Real
		errno     api.Errno
	}{
		{0, near, 1000, -3, r(1, 0), api.OK},
		{0, near, 0, 0, r(0, 0), api.OK},
		{0, near, 0, 7, r(0, 0), api.OK},
		{0, up, 0, math.MaxInt, r(0, 0), api.OK},
		{0, down, 0, math.MinInt, r(0, 0), api.OK},
		{0, near, -1000, -3, r(-1, 0), api.OK},

		// ties go to the even factor, also if it ends in 0 and moves on
		{-1, near, 12345675, 0, r(1234568, 1), api.OK},
		{-1, near, 12345665, 0, r(1234566, 1), api.OK},
		{-1, near, -12345675, 0, r(-1234568, 1), api.OK},
		{-1, near, -12345665, 0, r(-1234566, 1), api.OK},
		{-1, near, 99999995, 0, r(1, 8), api.OK},
		{-1, near, 99999985, 0, r(9999998, 1), api.OK},
		{-1, near, 10000005, 0, r(1, 7), api.OK},
		{-1, near, 10000015, 0, r(1000002, 1), api.OK},
		{-1, near, 123456650001, 0, r(1234567, 5), api.OK},
		{-1, near, 123456649999, 0, r(1234566, 5), api.OK},

		// the four directions of both signs
		{-1, up, 12345661, 0, r(1234567, 1), api.OK},
		{-1, down, 12345669, 0, r(1234566, 1), api.OK},
		{-1, zero, 12345669, 0, r(1234566, 1), api.OK},
		{-1, up, -12345669, 0, r(-1234566, 1), api.OK},
		{-1, down, -12345661, 0, r(-1234567, 1), api.OK},
		{-1, zero, -12345669, 0, r(-1234566, 1), api.OK},
		{-1, up, 99999991, 0, r(1, 8), api.OK},
		{-1, up, 12345660, 0, r(1234566, 1), api.OK},
		{-1, down, -12345660, 0, r(-1234566, 1), api.OK},

		// below the least exponent
		{0, near, 5, -401, r(0, 0), api.OK},
		{0, near, -5, -401, r(0, 0), api.OK},
		{0, near, 51, -402, r(1, -400), api.OK},
		{0, near, 15, -401, r(2, -400), api.OK},
		{0, near, 25, -401, r(2, -400), api.OK},
		{0, near, 95, -401, r(1, -399), api.OK},
		{0, near, 4, -401, r(0, 0), api.OK},
		{0, up, 1, -500, r(1, -400), api.OK},
		{0, up, -1, -500, r(0, 0), api.OK},
		{0, down, 1, -500, r(0, 0), api.OK},
		{0, down, -1, -500, r(-1, -400), api.OK},
		{0, zero, 1, -500, r(0, 0), api.OK},
		{0, zero, -1, -500, r(0, 0), api.OK},
		{1, near, math.MinInt64, math.MinInt, r(0, 0), api.OK},
		{1, up, math.MaxInt64, math.MinInt, r(1, -400), api.OK},
		{1, down, math.MinInt64, math.MinInt, r(-1, -400), api.OK},

		// above the greatest exponent
		{0, near, 1, 414, r(1, 414), api.OK},
		{0, near, 1, 415, r(0, 0), api.ErrRange},
		{0, near, 9999999999999994, 399, r(999999999999999, 400), api.OK},
		{0, near, 9999999999999995, 399, r(0, 0), api.ErrRange},
		{0, near, -9999999999999995, 399, r(0, 0), api.ErrRange},
		{0, up, 9999999999999991, 399, r(0, 0), api.ErrRange},
		{0, up, -9999999999999999, 399, r(-999999999999999, 400), api.OK},
		{0, down, 9999999999999999, 399, r(999999999999999, 400), api.OK},
		{0, down, -9999999999999991, 399, r(0, 0), api.ErrRange},
		{0, zero, 1, 415, r(999999999999999, 400), api.OK},
		{0, zero, -1, 415, r(-999999999999999, 400), api.OK},
		{0, down, 1, 415, r(999999999999999, 400), api.OK},
		{0, up, -1, 415, r(-999999999999999, 400), api.OK},
		{0, up, 1, 415, r(0, 0), api.ErrRange},
		{0, down, -1, 415, r(0, 0), api.ErrRange},
		{-1, zero, math.MaxInt64, math.MaxInt, r(9999999, 400), api.OK},
		{1, zero, math.MinInt64, math.MaxInt, r(-999999999999999999, 400), api.OK},
		{1, near, math.MinInt64, math.MaxInt, r(0, 0), api.ErrRange},
		{1, near, 1, math.MaxInt, r(0, 0), api.ErrRange},

		// the ends of m
		{1, near, math.MaxInt64, 0, r(922337203685477581, 1), api.OK},
		{1, near, math.MinInt64, 0, r(-922337203685477581, 1), api.OK},
		{1, up, math.MinInt64, 0, r(-92233720368547758, 2), api.OK},
		{1, down, math.MaxInt64, 0, r(92233720368547758, 2), api.OK},
		{0, near, math.MinInt64, -19, r(-922337203685478, -15), api.OK},

		// sizes and directions that are none come first
		{2, near, 1, 415, r(0, 0), api.ErrArg},
		{-2, near, 1, 0, r(0, 0), api.ErrArg},
		{0, -1, 1, 0, r(0, 0), api.ErrArg},
		{0, 4, 1, 415, r(0, 0), api.ErrArg},
	} {
		got, e := reals.Make(c.size, c.how, c.m, c.e)
		expect(t, fmt.Sprintf("Make(%d, %d, %d, %d)", c.size, c.how, c.m, c.e), c.want, c.errno, got, e)
	}
}

// binaryCase and unaryCase are calls with the results that the chapter gives them.

type binaryCase struct {
	name      string
	size, how int
	x, y      api.Real
	want      api.Real
	e         api.Errno
}

type unaryCase struct {
	name      string
	size, how int
	x         api.Real
	want      api.Real
	e         api.Errno
}

func testBinary(t *testing.T, cases []binaryCase) {
	t.Helper()
	functions := binaries()
	for _, c := range cases {
		got, e := functions[c.name](c.size, c.how, c.x, c.y)
		expect(t, fmt.Sprintf("%s(%d, %d, %d, %d)", c.name, c.size, c.how, c.x, c.y), c.want, c.e, got, e)
	}
}

func testUnary(t *testing.T, cases []unaryCase) {
	t.Helper()
	functions := unaries()
	for _, c := range cases {
		got, e := functions[c.name](c.size, c.how, c.x)
		expect(t, fmt.Sprintf("%s(%d, %d, %d)", c.name, c.size, c.how, c.x), c.want, c.e, got, e)
	}
}

// P2.2: sums and differences.
func TestSums(t *testing.T) {
	testBinary(t, []binaryCase{
		{"Add", 0, near, r(1, 0), r(2, 0), r(3, 0), api.OK},
		{"Add", 0, near, r(1, 0), r(-1, 0), r(0, 0), api.OK},
		{"Add", 0, near, r(0, 0), r(0, 0), r(0, 0), api.OK},
		{"Add", 0, near, r(0, 0), r(1, -400), r(1, -400), api.OK},
		{"Add", 0, near, r(1, 414), r(0, 0), r(1, 414), api.OK},
		{"Sub", 0, near, r(0, 0), r(1, 414), r(-1, 414), api.OK},
		{"Sub", 0, near, r(1, 0), r(1, 0), r(0, 0), api.OK},
		{"Sub", 0, near, r(1, 0), r(9, -1), r(1, -1), api.OK},
		{"Add", -1, near, r(9999999, 0), r(5, -1), r(1, 7), api.OK},
		{"Add", -1, near, r(9999999, 0), r(4, -1), r(9999999, 0), api.OK},
		{"Add", -1, near, r(9999998, 0), r(5, -1), r(9999998, 0), api.OK},
		// below a power of ten the neighbours are closer
		{"Sub", -1, near, r(1, 7), r(5, -1), r(1, 7), api.OK},
		{"Sub", -1, near, r(1, 7), r(51, -2), r(9999999, 0), api.OK},
		{"Add", -1, near, r(1, 7), r(5, 0), r(1, 7), api.OK},
		{"Add", -1, near, r(1, 7), r(51, -1), r(1000001, 1), api.OK},

		// what is far away decides the direction alone
		{"Add", 0, up, r(1, 0), r(1, -300), r(100000000000001, -14), api.OK},
		{"Add", 0, near, r(1, 0), r(1, -300), r(1, 0), api.OK},
		{"Add", 0, down, r(1, 0), r(1, -300), r(1, 0), api.OK},
		{"Add", 0, down, r(1, 0), r(-1, -300), r(999999999999999, -15), api.OK},
		{"Add", 0, near, r(1, 0), r(-1, -300), r(1, 0), api.OK},
		{"Sub", 0, zero, r(1, 0), r(1, -300), r(999999999999999, -15), api.OK},
		{"Sub", 0, zero, r(1, -300), r(1, 0), r(-999999999999999, -15), api.OK},
		{"Sub", 0, down, r(1, -300), r(1, 0), r(-1, 0), api.OK},
		{"Add", 1, up, r(999999999999999999, 400), r(1, -400), r(0, 0), api.ErrRange},
		{"Add", 1, near, r(999999999999999999, 400), r(1, -400), r(999999999999999999, 400), api.OK},
		{"Add", 1, down, r(-999999999999999999, 400), r(-1, -400), r(0, 0), api.ErrRange},

		// overflow in the four directions
		{"Add", 0, near, r(999999999999999, 400), r(5, 399), r(0, 0), api.ErrRange},
		{"Add", 0, near, r(999999999999999, 400), r(4, 399), r(999999999999999, 400), api.OK},
		{"Add", 0, up, r(999999999999999, 400), r(4, 399), r(0, 0), api.ErrRange},
		{"Add", 0, down, r(999999999999999, 400), r(9, 414), r(999999999999999, 400), api.OK},
		{"Add", 0, zero, r(999999999999999, 400), r(9, 414), r(999999999999999, 400), api.OK},
		{"Sub", 0, near, r(-999999999999999, 400), r(5, 399), r(0, 0), api.ErrRange},
		{"Sub", 0, up, r(-999999999999999, 400), r(9, 414), r(-999999999999999, 400), api.OK},
		{"Sub", 0, down, r(-999999999999999, 400), r(1, 0), r(0, 0), api.ErrRange},
		{"Sub", 0, zero, r(-999999999999999, 400), r(9, 414), r(-999999999999999, 400), api.OK},

		// no sum underflows
		{"Sub", 0, near, r(11, -400), r(1, -399), r(1, -400), api.OK},
	})
}

// P2.2: products and quotients.
func TestProducts(t *testing.T) {
	testBinary(t, []binaryCase{
		{"Mul", 0, near, r(3, 0), r(4, 0), r(12, 0), api.OK},
		{"Mul", 0, near, r(5, 0), r(4, 0), r(2, 1), api.OK},
		{"Mul", 0, near, r(0, 0), r(-4, 0), r(0, 0), api.OK},
		{"Mul", 0, down, r(-4, 400), r(0, 0), r(0, 0), api.OK},
		{"Mul", -1, near, r(1234567, 0), r(-7654321, 0), r(-9449772, 6), api.OK},
		{"Mul", 0, near, r(1, 400), r(1, 14), r(1, 414), api.OK},
		{"Mul", 0, near, r(1, 400), r(1, 15), r(0, 0), api.ErrRange},
		{"Mul", 0, zero, r(1, 400), r(-1, 15), r(-999999999999999, 400), api.OK},
		{"Mul", 0, up, r(1, 400), r(-1, 15), r(-999999999999999, 400), api.OK},
		{"Mul", 0, down, r(1, 400), r(-1, 15), r(0, 0), api.ErrRange},
		{"Mul", 0, up, r(1, 400), r(1, 400), r(0, 0), api.ErrRange},
		{"Mul", 0, down, r(1, 400), r(1, 400), r(999999999999999, 400), api.OK},
		{"Mul", 0, near, r(1, -200), r(5, -201), r(0, 0), api.OK},
		{"Mul", 0, near, r(3, -200), r(5, -201), r(2, -400), api.OK},
		{"Mul", 0, up, r(1, -400), r(1, -400), r(1, -400), api.OK},
		{"Mul", 0, down, r(1, -400), r(1, -400), r(0, 0), api.OK},
		{"Mul", 0, down, r(-1, -400), r(1, -400), r(-1, -400), api.OK},
		{"Mul", 0, zero, r(-1, -400), r(1, -400), r(0, 0), api.OK},
		{"Mul", 1, near, r(999999999999999999, 0), r(999999999999999999, 0), r(999999999999999998, 18), api.OK},
		{"Mul", 1, up, r(999999999999999999, 0), r(999999999999999999, 0), r(999999999999999999, 18), api.OK},

		{"Div", -1, near, r(1, 0), r(3, 0), r(3333333, -7), api.OK},
		{"Div", -1, up, r(1, 0), r(3, 0), r(3333334, -7), api.OK},
		{"Div", -1, up, r(1, 0), r(-3, 0), r(-3333333, -7), api.OK},
		{"Div", -1, down, r(-1, 0), r(3, 0), r(-3333334, -7), api.OK},
		{"Div", -1, zero, r(-2, 0), r(3, 0), r(-6666666, -7), api.OK},
		{"Div", -1, near, r(-2, 0), r(-3, 0), r(6666667, -7), api.OK},
		{"Div", 0, near, r(6, 0), r(3, 0), r(2, 0), api.OK},
		{"Div", 0, near, r(1, 0), r(8, 0), r(125, -3), api.OK},
		{"Div", 0, near, r(0, 0), r(3, 0), r(0, 0), api.OK},
		{"Div", 0, near, r(1, 0), r(0, 0), r(0, 0), api.ErrRange},
		{"Div", 0, zero, r(0, 0), r(0, 0), r(0, 0), api.ErrRange},
		{"Div", 0, near, r(1, 0), r(1, 400), r(1, -400), api.OK},
		{"Div", 0, near, r(1, 0), r(2, 400), r(0, 0), api.OK},
		{"Div", 0, near, r(1, 0), r(1, 414), r(0, 0), api.OK},
		{"Div", 0, up, r(1, 0), r(1, 414), r(1, -400), api.OK},
		{"Div", 0, near, r(1, 14), r(1, -400), r(1, 414), api.OK},
		{"Div", 0, near, r(1, 15), r(1, -400), r(0, 0), api.ErrRange},
		{"Div", 0, zero, r(1, 15), r(1, -400), r(999999999999999, 400), api.OK},
		{"Div", 0, down, r(-1, 15), r(1, -400), r(0, 0), api.ErrRange},
		{"Div", 0, up, r(-1, 15), r(1, -400), r(-999999999999999, 400), api.OK},
	})
}

// P2.2: roots, negatives, absolute values.
func TestUnaries(t *testing.T) {
	testUnary(t, []unaryCase{
		{"Sqrt", 0, near, r(2, 0), r(14142135623731, -13), api.OK},
		{"Sqrt", -1, down, r(2, 0), r(1414213, -6), api.OK},
		{"Sqrt", -1, up, r(2, 0), r(1414214, -6), api.OK},
		{"Sqrt", -1, zero, r(2, 0), r(1414213, -6), api.OK},
		{"Sqrt", 1, near, r(2, 0), r(141421356237309505, -17), api.OK},
		{"Sqrt", 0, near, r(25, -1), r(158113883008419, -14), api.OK},
		{"Sqrt", 0, up, r(9, 0), r(3, 0), api.OK},
		{"Sqrt", 0, down, r(25, -2), r(5, -1), api.OK},
		{"Sqrt", 0, near, r(1, 2), r(1, 1), api.OK},
		{"Sqrt", 0, near, r(1, -400), r(1, -200), api.OK},
		{"Sqrt", 0, near, r(1, 414), r(1, 207), api.OK},
		{"Sqrt", -1, near, r(1, 405), r(3162278, 196), api.OK},
		{"Sqrt", -1, near, r(1, -399), r(3162278, -206), api.OK},
		{"Sqrt", 0, up, r(0, 0), r(0, 0), api.OK},
		{"Sqrt", 0, near, r(-1, 0), r(0, 0), api.ErrRange},
		{"Sqrt", 0, zero, r(-1, -400), r(0, 0), api.ErrRange},

		{"Neg", 0, near, r(5, 1), r(-5, 1), api.OK},
		{"Neg", 0, near, r(-5, 1), r(5, 1), api.OK},
		{"Neg", 0, near, r(0, 0), r(0, 0), api.OK},
		{"Neg", 1, near, r(-999999999999999999, 400), r(999999999999999999, 400), api.OK},
		{"Neg", -1, near, r(10000001, 0), r(0, 0), api.ErrRange},
		{"Abs", 0, near, r(-5, -400), r(5, -400), api.OK},
		{"Abs", 0, near, r(5, 414), r(5, 414), api.OK},
		{"Abs", 0, near, r(0, 0), r(0, 0), api.OK},
		{"Abs", 0, near, r(10, 0), r(0, 0), api.ErrRange},
		{"Abs", 1, near, r(math.MinInt64, 0), r(0, 0), api.ErrRange},
	})
}

// P2.3
func TestPow(t *testing.T) {
	for _, c := range []struct {
		size int
		x    api.Real
		n    int64
		want api.Real
		e    api.Errno
	}{
		{0, r(2, 0), 10, r(1024, 0), api.OK},
		{0, r(2, 0), -2, r(25, -2), api.OK},
		{0, r(-2, 0), 3, r(-8, 0), api.OK},
		{0, r(-2, 0), -3, r(-125, -3), api.OK},
		{0, r(7, 3), 1, r(7, 3), api.OK},
		{0, r(7, 3), 0, r(1, 0), api.OK},
		{0, r(0, 0), 0, r(1, 0), api.OK},
		{0, r(0, 0), 1, r(0, 0), api.OK},
		{0, r(0, 0), -1, r(0, 0), api.ErrRange},
		{-1, r(3, 0), -1, r(3333333, -7), api.OK},
		// rounded after each multiplication: 3^15 is 14348907, then 1434891e1 times 3 is 4304673e1, and so on
		{-1, r(3, 0), 15, r(1434891, 1), api.OK},
		{-1, r(3, 0), 16, r(4304673, 1), api.OK},
		{-1, r(3, 0), 17, r(1291402, 2), api.OK},
		{0, r(1, 1), 414, r(1, 414), api.OK},
		{0, r(1, 1), 415, r(0, 0), api.ErrRange},
		{0, r(1, 1), -400, r(1, -400), api.OK},
		{0, r(1, 1), -401, r(0, 0), api.OK},
		{0, r(1, 1), -415, r(0, 0), api.ErrRange},
		{0, r(1, -1), 400, r(1, -400), api.OK},
		{0, r(1, -1), 401, r(0, 0), api.OK},
		{0, r(1, -1), -400, r(1, 400), api.OK},
		{0, r(1, -1), -401, r(0, 0), api.ErrRange},
		{0, r(1, 0), 1000, r(1, 0), api.OK},
		{0, r(-1, 0), 999, r(-1, 0), api.OK},
		{0, r(-1, 0), -1000, r(1, 0), api.OK},
		{0, r(1, 0), 1001, r(0, 0), api.ErrRange},
		{0, r(1, 0), -1001, r(0, 0), api.ErrRange},
		{0, r(0, 0), 1001, r(0, 0), api.ErrRange},
		{0, r(1, 0), math.MaxInt64, r(0, 0), api.ErrRange},
		{0, r(1, 0), math.MinInt64, r(0, 0), api.ErrRange},
		{0, r(10, 0), 0, r(0, 0), api.ErrRange},
		{2, r(10, 0), 1001, r(0, 0), api.ErrArg},
		{-2, r(1, 0), 1, r(0, 0), api.ErrArg},
	} {
		got, e := reals.Pow(c.size, c.x, c.n)
		expect(t, fmt.Sprintf("Pow(%d, %d, %d)", c.size, c.x, c.n), c.want, c.e, got, e)
	}
}

// P2.4
func TestCompare(t *testing.T) {
	for _, c := range []struct {
		x, y api.Real
		want int
	}{
		{r(1, 0), r(2, 0), -1}, {r(2, 0), r(1, 0), 1}, {r(1, 0), r(1, 0), 0}, {r(-1, 0), r(1, 0), -1}, {r(1, 0), r(-1, 0), 1}, {r(-2, 0), r(-1, 0), -1}, {r(-1, 0), r(-2, 0), 1}, {r(-1, 0), r(-1, 0), 0},
		{r(0, 0), r(1, -400), -1}, {r(0, 0), r(-1, -400), 1}, {r(1, -400), r(0, 0), 1}, {r(-1, -400), r(0, 0), -1}, {r(0, 5), r(0, 0), 0}, {r(0, math.MaxInt), r(0, math.MinInt), 0}, {r(0, math.MaxInt), r(1, math.MinInt), -1}, {r(0, math.MinInt), r(-1, math.MinInt), 1},
		{r(10, 0), r(1, 1), 0}, {r(1, 1), r(10, 0), 0}, {r(-100, 3), r(-1, 5), 0}, {r(1, 400), r(9, 399), 1}, {r(9, 399), r(1, 400), -1}, {r(-1, 9), r(-2, 0), -1}, {r(-2, 0), r(-1, 9), 1},
		{r(1000000000000000000, 0), r(1, 18), 0}, {r(1, 18), r(999999999999999999, 0), 1}, {r(1, 18), r(1000000000000000001, 0), -1}, {r(1, 19), r(math.MaxInt64, 0), 1}, {r(-1, 19), r(math.MinInt64, 0), -1}, {r(math.MaxInt64, 19), r(math.MaxInt64, 0), 1}, {r(math.MaxInt64, 0), r(1, 20), -1},
		{r(math.MinInt64, 0), r(-math.MaxInt64, 0), -1}, {r(math.MinInt64, 0), r(math.MinInt64, 0), 0}, {r(math.MinInt64, 3), r(math.MinInt64, 4), 1}, {r(math.MinInt64, 0), r(math.MaxInt64, 0), -1},
		{r(1, math.MaxInt), r(math.MaxInt64, math.MinInt), 1}, {r(math.MaxInt64, math.MinInt), r(1, math.MaxInt), -1}, {r(-1, math.MaxInt), r(math.MinInt64, math.MinInt), -1}, {r(1, math.MaxInt), r(10, math.MaxInt-1), 0}, {r(1, math.MinInt+1), r(10, math.MinInt), 0}, {r(1, math.MinInt), r(1, math.MinInt), 0}, {r(2, math.MaxInt), r(1, math.MaxInt), 1}, {r(1, math.MaxInt), r(1, 0), 1}, {r(1, math.MinInt), r(1, 0), -1}, {r(1, math.MinInt), r(1, 1), -1}, {r(1, math.MaxInt), r(1, -1), 1},
	} {
		if got := reals.Compare(c.x, c.y); got != c.want {
			t.Errorf("Compare(%d, %d) is %d, not %d", c.x, c.y, got, c.want)
		}
	}
}

// P2.4
func TestWholes(t *testing.T) {
	for _, c := range []struct {
		size         int
		x            api.Real
		floor        int64
		floorErrno   api.Errno
		nearest      int64
		nearestErrno api.Errno
	}{
		{0, r(0, 0), 0, api.OK, 0, api.OK},
		{0, r(25, -1), 2, api.OK, 3, api.OK},
		{0, r(-25, -1), -3, api.OK, -3, api.OK},
		{0, r(35, -1), 3, api.OK, 4, api.OK},
		{0, r(-24, -1), -3, api.OK, -2, api.OK},
		{0, r(249, -2), 2, api.OK, 2, api.OK},
		{0, r(7, 0), 7, api.OK, 7, api.OK},
		{0, r(-7, 0), -7, api.OK, -7, api.OK},
		{0, r(3, 2), 300, api.OK, 300, api.OK},
		{0, r(5, -1), 0, api.OK, 1, api.OK},
		{0, r(-5, -1), -1, api.OK, -1, api.OK},
		{0, r(4, -3), 0, api.OK, 0, api.OK},
		{0, r(-4, -3), -1, api.OK, 0, api.OK},
		{0, r(1, -400), 0, api.OK, 0, api.OK},
		{0, r(-1, -400), -1, api.OK, 0, api.OK},
		{-1, r(32767, 0), 32767, api.OK, 32767, api.OK},
		{-1, r(327674, -1), 32767, api.OK, 32767, api.OK},
		{-1, r(327675, -1), 32767, api.OK, 0, api.ErrRange},
		{-1, r(32768, 0), 0, api.ErrRange, 0, api.ErrRange},
		{-1, r(-32767, 0), -32767, api.OK, -32767, api.OK},
		{-1, r(-327671, -1), 0, api.ErrRange, -32767, api.OK},
		{-1, r(-327675, -1), 0, api.ErrRange, 0, api.ErrRange},
		{0, r(2147483647, 0), 2147483647, api.OK, 2147483647, api.OK},
		{0, r(2147483648, 0), 0, api.ErrRange, 0, api.ErrRange},
		{1, r(999999999999999999, 0), 999999999999999999, api.OK, 999999999999999999, api.OK},
		{1, r(99999999999999999, 1), 999999999999999990, api.OK, 999999999999999990, api.OK},
		{1, r(1, 18), 0, api.ErrRange, 0, api.ErrRange},
		{1, r(-1, 18), 0, api.ErrRange, 0, api.ErrRange},
		{1, r(1, 64), 0, api.ErrRange, 0, api.ErrRange},
		{1, r(9, 417), 0, api.ErrRange, 0, api.ErrRange},
		{1, r(-9, 417), 0, api.ErrRange, 0, api.ErrRange},
		{0, r(10, 0), 0, api.ErrRange, 0, api.ErrRange},
		{1, r(1, math.MaxInt), 0, api.ErrRange, 0, api.ErrRange},
		{1, r(1, math.MinInt), 0, api.ErrRange, 0, api.ErrRange},
		{2, r(10, 0), 0, api.ErrArg, 0, api.ErrArg},
		{-2, r(1, 0), 0, api.ErrArg, 0, api.ErrArg},
	} {
		if n, e := reals.Entier(c.size, c.x); n != c.floor || e != c.floorErrno {
			t.Errorf("Entier(%d, %d) is %d, %d", c.size, c.x, n, int(e))
		}
		if n, e := reals.Round(c.size, c.x); n != c.nearest || e != c.nearestErrno {
			t.Errorf("Round(%d, %d) is %d, %d", c.size, c.x, n, int(e))
		}
	}
}

// P2.5
func TestSizesOfReals(t *testing.T) {
	testUnary(t, []unaryCase{
		{"Leng", -1, near, r(1234567, 3), r(1234567, 3), api.OK},
		{"Leng", -1, near, r(-9, 406), r(-9, 406), api.OK},
		{"Leng", 0, near, r(999999999999999, 400), r(999999999999999, 400), api.OK},
		{"Leng", 0, near, r(0, 0), r(0, 0), api.OK},
		{"Leng", -1, near, r(12345678, 0), r(0, 0), api.ErrRange},
		{"Leng", 1, near, r(1, 0), r(0, 0), api.ErrArg},
		{"Leng", 1, near, r(10, 0), r(0, 0), api.ErrArg},
		{"Leng", 2, near, r(1, 0), r(0, 0), api.ErrArg},
		{"Leng", -2, near, r(10, 0), r(0, 0), api.ErrArg},

		{"Shorten", 0, near, r(12345675, 0), r(1234568, 1), api.OK},
		{"Shorten", 0, near, r(12345665, 0), r(1234566, 1), api.OK},
		{"Shorten", 0, down, r(123456789, 0), r(1234567, 2), api.OK},
		{"Shorten", 0, up, r(123456711, 0), r(1234568, 2), api.OK},
		{"Shorten", 0, zero, r(-123456789, 0), r(-1234567, 2), api.OK},
		{"Shorten", 0, down, r(-123456711, 0), r(-1234568, 2), api.OK},
		{"Shorten", 1, near, r(999999999999999999, 0), r(1, 18), api.OK},
		{"Shorten", 1, zero, r(999999999999999999, 0), r(999999999999999, 3), api.OK},
		{"Shorten", 0, near, r(1, 406), r(1, 406), api.OK},
		{"Shorten", 0, near, r(1, 407), r(0, 0), api.ErrRange},
		{"Shorten", 0, zero, r(1, 407), r(9999999, 400), api.OK},
		{"Shorten", 0, up, r(-1, 407), r(-9999999, 400), api.OK},
		{"Shorten", 0, down, r(-1, 407), r(0, 0), api.ErrRange},
		{"Shorten", 0, near, r(99999995, 399), r(0, 0), api.ErrRange},
		{"Shorten", 0, near, r(99999994, 399), r(9999999, 400), api.OK},
		{"Shorten", 1, near, r(1, -400), r(1, -400), api.OK},
		{"Shorten", 1, near, r(0, 0), r(0, 0), api.OK},
		{"Shorten", 0, near, r(10, 0), r(0, 0), api.ErrRange},
		{"Shorten", -1, near, r(1, 0), r(0, 0), api.ErrArg},
		{"Shorten", -1, near, r(10, 0), r(0, 0), api.ErrArg},
		{"Shorten", 0, 4, r(10, 0), r(0, 0), api.ErrArg},
		{"Shorten", 0, -1, r(1, 0), r(0, 0), api.ErrArg},
		{"Shorten", 2, near, r(1, 0), r(0, 0), api.ErrArg},
		{"Shorten", -2, near, r(1, 0), r(0, 0), api.ErrArg},
	})
}

// P2.2 and P2.5: a size or a direction that is none is ErrArg, whatever the operands are; an operand that is not valid is ErrRange.
func TestArguments(t *testing.T) {
	operands := append(invalid(), r(1, 0), r(-1, 0), api.Real{})
	for _, x := range operands {
		for _, size := range append(append([]int{}, goodSizes...), badSizes...) {
			for _, how := range append(append([]int{}, directions...), badDirections...) {
				holdArguments(t, size, how, x)
			}
		}
	}
}

// holdArguments expects the errors of the arguments of every function, and says nothing of results without one.
func holdArguments(t *testing.T, size, how int, x api.Real) {
	t.Helper()
	want := func(sizes, directions bool, operands ...api.Real) api.Errno {
		if !sizes || !directions {
			return api.ErrArg
		}
		for _, x := range operands {
			if !wantValid(size, x) {
				return api.ErrRange
			}
		}
		return api.OK
	}
	see := func(name string, want, got api.Errno) {
		if want != got && want != api.OK {
			t.Errorf("%s(%d, %d) of %d has the error %d, not %d", name, size, how, x, int(got), int(want))
		}
	}
	is, goes := isSize(size), isDirection(how)
	one := r(1, 0)
	for name, f := range binaries() {
		_, e := f(size, how, x, one)
		see(name, want(is, goes, x, one), e)
		_, e = f(size, how, one, x)
		see(name, want(is, goes, one, x), e)
	}
	_, e := reals.Make(size, how, 1, 0)
	see("Make", want(is, goes), e)
	_, e = reals.Sqrt(size, how, x)
	see("Sqrt", want(is, goes, x), e)
	_, e = reals.Shorten(size, how, x)
	see("Shorten", want(is && size != api.Short, goes, x), e)
	_, e = reals.Leng(size, x)
	see("Leng", want(is && size != api.Long, true, x), e)
	_, e = reals.Neg(size, x)
	see("Neg", want(is, true, x), e)
	_, e = reals.Abs(size, x)
	see("Abs", want(is, true, x), e)
	_, e = reals.Pow(size, x, 1)
	see("Pow", want(is, true, x), e)
	_, e = reals.Entier(size, x)
	see("Entier", want(is, true, x), e)
	_, e = reals.Round(size, x)
	see("Round", want(is, true, x), e)
}
