package texts_test

import (
	"math"
	"math/rand/v2"
	"strings"
	"testing"

	"environ/api"
	"environ/texts"
)

var goodSizes = []int{api.Short, api.Plain, api.Long}

var badSizes = []int{-2, 2, 3, -100, math.MinInt, math.MaxInt, 1 << 40}

func r(m int64, e int) api.Real { return api.Real{M: m, E: e} }

// many returns a text n times.
func many(n int, s string) string { return strings.Repeat(s, n) }

// head returns the beginning of a text that may be too long to be shown.
func head(s string) string {
	if len(s) > 60 {
		return s[:60] + ".."
	}
	return s
}

// source gives numbers that look like random ones, the same ones in each run.
func source() *rand.Rand { return rand.New(rand.NewPCG(3, 1968)) }

// numberCase is a call of a function that makes an integer or a word of a text.
type numberCase struct {
	size int
	s    string
	want int64
	e    api.Errno
}

func testNumbers(t *testing.T, name string, f func(int, string) (int64, api.Errno), cases []numberCase) {
	t.Helper()
	for _, c := range cases {
		if n, e := f(c.size, c.s); n != c.want || e != c.e {
			t.Errorf("%s(%d, %q) is %d, %d, not %d, %d", name, c.size, head(c.s), n, int(e), c.want, int(c.e))
		}
	}
}

// P3.1: integers.
func TestInt(t *testing.T) {
	testNumbers(t, "Int", texts.Int, []numberCase{
		{0, "0", 0, api.OK},
		{0, "7", 7, api.OK},
		{0, "12", 12, api.OK},
		{0, "0000", 0, api.OK},
		{0, "1234567890", 1234567890, api.OK},

		// at max and just above it
		{-1, "32767", 32767, api.OK},
		{-1, "032767", 32767, api.OK},
		{-1, "32768", 0, api.ErrRange},
		{-1, "99999", 0, api.ErrRange},
		{0, "32768", 32768, api.OK},
		{0, "2147483647", 2147483647, api.OK},
		{0, "2147483648", 0, api.ErrRange},
		{0, "4294967296", 0, api.ErrRange},
		{1, "2147483648", 2147483648, api.OK},
		{1, "999999999999999999", 999999999999999999, api.OK},
		{1, "1000000000000000000", 0, api.ErrRange},

		// numbers that come back to small ones in 60, 63 and 64 bits
		{1, "1152921504606846976", 0, api.ErrRange},
		{1, "1152921504606846977", 0, api.ErrRange},
		{1, "9223372036854775808", 0, api.ErrRange},
		{1, "18446744073709551616", 0, api.ErrRange},
		{1, "18446744073709551617", 0, api.ErrRange},
		{0, "36893488147419103233", 0, api.ErrRange},

		// long ones
		{-1, many(100000, "0") + "32767", 32767, api.OK},
		{-1, many(100000, "0") + "32768", 0, api.ErrRange},
		{1, many(100000, "0"), 0, api.OK},
		{1, "1" + many(100000, "0"), 0, api.ErrRange},
		{1, many(100000, "9"), 0, api.ErrRange},
	})
}

// P3.1: texts that are no digits are ErrSyntax, whatever their digits are.
func TestIntSyntax(t *testing.T) {
	for _, s := range []string{"", " ", "-1", "+1", " 1", "1 ", "1\n", "1.0", "1e2", "a", "1a", "a1", "/", ":", "1/", "1:", "0x10", "1_000", "2r1", "T", "-", "1-", "1,2", "\x00", "1\x00", "\xb1", "1\xff", "\u0661", "\uff11", "9999999999999999999999x", many(1000, "9") + "."} {
		for _, size := range goodSizes {
			testNumbers(t, "Int", texts.Int, []numberCase{{size, s, 0, api.ErrSyntax}})
		}
	}
}

// P3.1: words, of each radix.
func TestBits(t *testing.T) {
	testNumbers(t, "Bits", texts.Bits, []numberCase{
		{-1, "2r101", 5, api.OK},
		{0, "2r0", 0, api.OK},
		{0, "4r123", 27, api.OK},
		{0, "4r3210", 228, api.OK},
		{0, "8r1234567", 342391, api.OK},
		{0, "8r07", 7, api.OK},
		{0, "16rff", 255, api.OK},
		{0, "16r1234567", 19088743, api.OK},
		{0, "16r89abcdef", 2309737967, api.OK},
		{0, "16r9", 9, api.OK},
		{0, "16ra", 10, api.OK},
		{0, "16r000f", 15, api.OK},

		// all bits, and one more
		{-1, "2r" + many(16, "1"), 65535, api.OK},
		{-1, "2r1" + many(16, "0"), 0, api.ErrRange},
		{-1, "4r" + many(8, "3"), 65535, api.OK},
		{-1, "4r1" + many(8, "0"), 0, api.ErrRange},
		{-1, "8r177777", 65535, api.OK},
		{-1, "8r200000", 0, api.ErrRange},
		{-1, "16rffff", 65535, api.OK},
		{-1, "16r10000", 0, api.ErrRange},
		{0, "2r" + many(32, "1"), 4294967295, api.OK},
		{0, "2r1" + many(32, "0"), 0, api.ErrRange},
		{0, "16rffffffff", 4294967295, api.OK},
		{0, "16r100000000", 0, api.ErrRange},
		{1, "2r" + many(60, "1"), 1<<60 - 1, api.OK},
		{1, "2r1" + many(60, "0"), 0, api.ErrRange},
		{1, "4r" + many(30, "3"), 1<<60 - 1, api.OK},
		{1, "4r1" + many(30, "0"), 0, api.ErrRange},
		{1, "8r" + many(20, "7"), 1<<60 - 1, api.OK},
		{1, "8r1" + many(20, "0"), 0, api.ErrRange},
		{1, "16r" + many(15, "f"), 1<<60 - 1, api.OK},
		{1, "16r1" + many(15, "0"), 0, api.ErrRange},
		{1, "16r8" + many(15, "0"), 0, api.ErrRange},
		{1, "16r1" + many(16, "0"), 0, api.ErrRange},
		{1, "16r1" + many(15, "0") + "1", 0, api.ErrRange},

		// long ones
		{-1, "2r" + many(100000, "0") + "101", 5, api.OK},
		{-1, "16r" + many(100000, "0") + "ffff", 65535, api.OK},
		{-1, "16r" + many(100000, "0") + "10000", 0, api.ErrRange},
		{1, "16r1" + many(100000, "0"), 0, api.ErrRange},
		{1, "2r" + many(100000, "1"), 0, api.ErrRange},
	})
}

// P3.1: texts that are no words are ErrSyntax, whatever their digits are.
func TestBitsSyntax(t *testing.T) {
	list := []string{"", "r", "2", "16", "2r", "4r", "8r", "16r", "r1", "1r1", "1r0", "3r1", "5r1", "7r1", "9r1", "10r1", "12r1", "15r1", "17r1", "32r1", "0r0", "02r1", "016r1", "22r1", "28r1", "6r1", "61r1", "x2r1",
		"2r2", "2r12", "4r4", "4r34", "8r8", "8r78", "8r9", "16rg", "16rfg", "16rz", "2ra", "4ra", "8ra",
		"2R1", "16rF", "16rA", "16rfF", "2r1r1", "2rr1", "2r 1", "2 r1", " 2r1", "2r1 ", "2r1\n", "+2r1", "-2r1", "2r+1", "2r-1", "2r1.", "16r.", "16r1e+1", "16r/", "16r:", "16r`", "16r@", "2r/", "2r1\x00", "16r\xff", "2r\u0661", "12", "TF", "ff",
		"16r" + many(100, "f") + "g", "2r" + many(100, "1") + "2"}
	for _, s := range list {
		for _, size := range goodSizes {
			testNumbers(t, "Bits", texts.Bits, []numberCase{{size, s, 0, api.ErrSyntax}})
		}
	}
}

// realCase is a call of Real.
type realCase struct {
	size int
	s    string
	want api.Real
	e    api.Errno
}

func testReals(t *testing.T, cases []realCase) {
	t.Helper()
	for _, c := range cases {
		if x, e := texts.Real(c.size, c.s); x != c.want || e != c.e {
			t.Errorf("Real(%d, %q) is %d, %d, not %d, %d", c.size, head(c.s), x, int(e), c.want, int(c.e))
		}
	}
}

// P3.1: reals in each form.
func TestReal(t *testing.T) {
	testReals(t, []realCase{
		{0, "0", r(0, 0), api.OK},
		{0, "0.0", r(0, 0), api.OK},
		{0, ".0", r(0, 0), api.OK},
		{0, "000.000e5", r(0, 0), api.OK},
		{0, "7", r(7, 0), api.OK},
		{0, "1.5", r(15, -1), api.OK},
		{0, ".5", r(5, -1), api.OK},
		{0, "00.50", r(5, -1), api.OK},
		{0, "12.0625", r(120625, -4), api.OK},
		{0, "1e2", r(1, 2), api.OK},
		{0, "1e+2", r(1, 2), api.OK},
		{0, "1e-2", r(1, -2), api.OK},
		{0, "1.50e-2", r(15, -3), api.OK},
		{0, ".25e3", r(25, 1), api.OK},
		{0, ".5e1", r(5, 0), api.OK},
		{0, "1e0", r(1, 0), api.OK},
		{0, "1e-0", r(1, 0), api.OK},
		{0, "1e+00", r(1, 0), api.OK},
		{0, "100", r(1, 2), api.OK},
		{0, "100e-2", r(1, 0), api.OK},
		{0, "0.00100", r(1, -3), api.OK},
		{0, "1000.000", r(1, 3), api.OK},
		{0, "1e007", r(1, 7), api.OK},
		{0, "1e" + many(100000, "0") + "7", r(1, 7), api.OK},
		{0, "1e-" + many(100000, "0") + "7", r(1, -7), api.OK},
	})
}

// P3.1: reals are rounded once, to the nearest, of two to the one with the even factor.
func TestRealRounding(t *testing.T) {
	testReals(t, []realCase{
		{-1, "12345675", r(1234568, 1), api.OK},
		{-1, "12345665", r(1234566, 1), api.OK},
		{-1, "12345674", r(1234567, 1), api.OK},
		{-1, "12345666", r(1234567, 1), api.OK},
		{-1, "1234566.5", r(1234566, 0), api.OK},
		{-1, "1234566.50", r(1234566, 0), api.OK},
		{-1, "1234566.500000000000000000000000001", r(1234567, 0), api.OK},
		{-1, "1234567.5", r(1234568, 0), api.OK},
		{-1, "1234567.4" + many(1000, "9"), r(1234567, 0), api.OK},
		{-1, "9999999.5", r(1, 7), api.OK},
		{-1, "9999998.5", r(9999998, 0), api.OK},
		{-1, "99999995", r(1, 8), api.OK},
		{-1, "10000005", r(1, 7), api.OK},
		{-1, "10000015", r(1000002, 1), api.OK},

		{0, "123456789012345", r(123456789012345, 0), api.OK},
		{0, "1234567890123455", r(123456789012346, 1), api.OK},
		{0, "1234567890123465", r(123456789012346, 1), api.OK},
		{0, "9999999999999995", r(1, 16), api.OK},
		{1, "123456789012345678", r(123456789012345678, 0), api.OK},
		{1, "1234567890123456785", r(123456789012345678, 1), api.OK},
		{1, "1234567890123456775", r(123456789012345678, 1), api.OK},
		{1, "12345678901234567850000001", r(123456789012345679, 8), api.OK},
		{1, "9999999999999999994", r(999999999999999999, 1), api.OK},
		{1, "9999999999999999995", r(1, 19), api.OK},
		{1, "18446744073709551616", r(184467440737095516, 2), api.OK},

		// a last digit far behind decides
		{-1, "1234566.5" + many(100000, "0"), r(1234566, 0), api.OK},
		{-1, "1234566.5" + many(100000, "0") + "1", r(1234567, 0), api.OK},
		{-1, "12345665" + many(300, "0") + "e-300", r(1234566, 1), api.OK},
		{-1, "12345665" + many(300, "0") + "1e-301", r(1234567, 1), api.OK},

		// zeros in front and behind take no digits
		{-1, many(100000, "0") + "1234567", r(1234567, 0), api.OK},
		{-1, "0." + many(300, "0") + "1234567", r(1234567, -307), api.OK},
		{-1, "1234567" + many(300, "0"), r(1234567, 300), api.OK},
		{0, "1" + many(100000, "0") + "e-100000", r(1, 0), api.OK},
		{0, "." + many(100000, "0") + "1e100001", r(1, 0), api.OK},
		{0, "1" + many(100000, "0") + "e-100400", r(1, -400), api.OK},
		{0, "." + many(100000, "0") + "1e100415", r(1, 414), api.OK},
		{0, "." + many(100000, "0") + "1e100416", r(0, 0), api.ErrRange},
	})
}

// P3.1: reals just at overflow, and next to 0.
func TestRealRange(t *testing.T) {
	testReals(t, []realCase{
		{-1, "1e406", r(1, 406), api.OK},
		{-1, "1e407", r(0, 0), api.ErrRange},
		{-1, "9999999e400", r(9999999, 400), api.OK},
		{-1, "9999999.4999e400", r(9999999, 400), api.OK},
		{-1, "9999999.5e400", r(0, 0), api.ErrRange},
		{-1, "99999994e399", r(9999999, 400), api.OK},
		{-1, "99999995e399", r(0, 0), api.ErrRange},
		{-1, "10000000e400", r(0, 0), api.ErrRange},
		{0, "1e414", r(1, 414), api.OK},
		{0, "1e415", r(0, 0), api.ErrRange},
		{0, "999999999999999.4e400", r(999999999999999, 400), api.OK},
		{0, "999999999999999.5e400", r(0, 0), api.ErrRange},
		{1, "1e417", r(1, 417), api.OK},
		{1, "1e418", r(0, 0), api.ErrRange},
		{1, "999999999999999999.4e400", r(999999999999999999, 400), api.OK},
		{1, "999999999999999999.5e400", r(0, 0), api.ErrRange},
		{0, many(415, "9"), r(0, 0), api.ErrRange},
		{0, many(414, "9"), r(1, 414), api.OK},
		{0, "1" + many(414, "0"), r(1, 414), api.OK},
		{0, "1" + many(415, "0"), r(0, 0), api.ErrRange},
		{0, "1" + many(100000, "0"), r(0, 0), api.ErrRange},

		{0, "1e-400", r(1, -400), api.OK},
		{0, "5e-401", r(0, 0), api.OK},
		{0, "51e-402", r(1, -400), api.OK},
		{0, "5" + many(1000, "0") + "1e-1402", r(1, -400), api.OK},
		{0, "4.9e-401", r(0, 0), api.OK},
		{0, "9e-401", r(1, -400), api.OK},
		{0, "9e-402", r(0, 0), api.OK},
		{0, "99e-402", r(1, -400), api.OK},
		{0, "15e-401", r(2, -400), api.OK},
		{0, "25e-401", r(2, -400), api.OK},
		{0, "95e-401", r(1, -399), api.OK},
		{-1, "1234567.5e-400", r(1234568, -400), api.OK},
		{-1, "123456.75e-400", r(123457, -400), api.OK},
		{-1, "12.5e-400", r(12, -400), api.OK},
		{0, "." + many(400, "0") + "5", r(0, 0), api.OK},
		{0, "." + many(399, "0") + "5", r(5, -400), api.OK},
		{0, "." + many(100000, "0") + "5", r(0, 0), api.OK},

		// exponents that come back to small ones in 60, 63 and 64 bits
		{0, "1e9999999999", r(0, 0), api.ErrRange},
		{0, "1e-9999999999", r(0, 0), api.OK},
		{0, "1e1152921504606846976", r(0, 0), api.ErrRange},
		{0, "1e9223372036854775808", r(0, 0), api.ErrRange},
		{0, "1e18446744073709551616", r(0, 0), api.ErrRange},
		{0, "1e-18446744073709551616", r(0, 0), api.OK},
		{0, "1e4294967296", r(0, 0), api.ErrRange},
		{0, "1e" + many(100000, "9"), r(0, 0), api.ErrRange},
		{0, "1e-" + many(100000, "9"), r(0, 0), api.OK},
		{0, "0e" + many(100000, "9"), r(0, 0), api.OK},
		{0, "0.00e-" + many(100000, "9"), r(0, 0), api.OK},
		{0, "0e415", r(0, 0), api.OK},
	})
}

// P3.1: texts that are no reals are ErrSyntax, whatever their digits are.
func TestRealSyntax(t *testing.T) {
	for _, s := range []string{"", " ", ".", "e", "e5", ".e5", "1.", "1.e5", "1e", "1e+", "1e-", "1.5e", ".5e-", "+1", "-1", "-.5", " 1", "1 ", "1\n", "1 .5", "1. 5", "1e 5", "1 e5", "1e+ 5", "1E5", "1..5", "..5", "1.5.2", "1e5e5", "1e5.", "1e5.5", "1e++5", "1e+-5", "1e5+", "1,5", "a", "1a", "0x1p5", "1_0", "1_000.5", "inf", "Inf", "nan", "NaN", "/", ":", "1/", ".:", "1e/", "1\x00", "\xff", "1.\u0661", "1d5", "1\\5", "1.a", "1.5a", ".a", ".5f", "1ea", "1e5a", "1e-b", "1f.5", "a.5", "1.5e1c", many(1000, "9") + ".", "1e" + many(1000, "9") + "."} {
		for _, size := range goodSizes {
			testReals(t, []realCase{{size, s, r(0, 0), api.ErrSyntax}})
		}
	}
}

// P3.1: a size that is none is ErrArg, whatever the text is.
func TestDenotationSizes(t *testing.T) {
	for _, size := range badSizes {
		for _, s := range []string{"1", "", "x", "2r1", "2r3", "1.5", many(1000, "9"), "1e999", "16r" + many(100, "f")} {
			testNumbers(t, "Int", texts.Int, []numberCase{{size, s, 0, api.ErrArg}})
			testNumbers(t, "Bits", texts.Bits, []numberCase{{size, s, 0, api.ErrArg}})
			testReals(t, []realCase{{size, s, r(0, 0), api.ErrArg}})
		}
	}
}

// P3.2: any Real is denoted, also one that is not valid.
func TestDenote(t *testing.T) {
	for _, c := range []struct {
		x    api.Real
		want string
	}{
		{r(0, 0), "0"}, {r(3, 0), "3"}, {r(-3, 0), "-3"}, {r(15, -1), "15e-1"}, {r(-15, -1), "-15e-1"}, {r(1, 2), "1e2"}, {r(-1, 2), "-1e2"},
		{r(10, 0), "10"}, {r(100, -2), "100e-2"}, {r(0, 7), "0e7"}, {r(0, -7), "0e-7"}, {r(999999999999999999, 400), "999999999999999999e400"},
		{r(math.MaxInt64, math.MaxInt64), "9223372036854775807e9223372036854775807"},
		{r(math.MinInt64, math.MinInt64), "-9223372036854775808e-9223372036854775808"},
		{r(math.MinInt64, 0), "-9223372036854775808"},
	} {
		if s := texts.Denote(c.x); s != c.want {
			t.Errorf("Denote(%d) is %q, not %q", c.x, s, c.want)
		}
	}
}
