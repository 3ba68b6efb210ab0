package texts_test

import (
	"math"
	"testing"

	"environ/api"
	"environ/texts"
)

// readCase is a call of ReadInt or ReadWord.
type readCase struct {
	size int
	s    string
	want int64
	used int
	e    api.Errno
}

func testReading(t *testing.T, name string, f func(int, string) (int64, int, api.Errno), cases []readCase) {
	t.Helper()
	for _, c := range cases {
		if n, used, e := f(c.size, c.s); n != c.want || used != c.used || e != c.e {
			t.Errorf("%s(%d, %q) is %d, %d, %d, not %d, %d, %d", name, c.size, head(c.s), n, used, int(e), c.want, c.used, int(c.e))
		}
	}
}

// P3.7
func TestReadInt(t *testing.T) {
	testReading(t, "ReadInt", texts.ReadInt, []readCase{
		{0, "12", 12, 2, api.OK}, {0, "+12", 12, 3, api.OK}, {0, "-12", -12, 3, api.OK}, {0, "0", 0, 1, api.OK}, {0, "-0", 0, 2, api.OK}, {0, "+0", 0, 2, api.OK}, {0, "007", 7, 3, api.OK},
		{0, "12 ", 12, 2, api.OK}, {0, "12x", 12, 2, api.OK}, {0, "12+3", 12, 2, api.OK}, {0, "12.5", 12, 2, api.OK}, {0, "12e5", 12, 2, api.OK}, {0, "1a", 1, 1, api.OK}, {0, "1/", 1, 1, api.OK}, {0, "1:", 1, 1, api.OK}, {0, "7\n8", 7, 1, api.OK},

		// blanks of each kind, and characters that are none of them
		{0, " \n-7x", -7, 4, api.OK}, {0, " 5", 5, 2, api.OK}, {0, "\t5", 5, 2, api.OK}, {0, "\n5", 5, 2, api.OK}, {0, "\f5", 5, 2, api.OK}, {0, "\t\n\f \t\n\f 5 ", 5, 9, api.OK}, {0, many(100000, " ") + "5", 5, 100001, api.OK},
		{0, "\r5", 0, 0, api.ErrSyntax}, {0, "\v5", 0, 0, api.ErrSyntax}, {0, "\x005", 0, 0, api.ErrSyntax}, {0, "\b5", 0, 0, api.ErrSyntax}, {0, "\x1f5", 0, 0, api.ErrSyntax}, {0, "!5", 0, 0, api.ErrSyntax}, {0, "\u00a05", 0, 0, api.ErrSyntax}, {0, "\x855", 0, 0, api.ErrSyntax}, {0, " \r\n5", 0, 1, api.ErrSyntax},

		// no digits
		{0, "x", 0, 0, api.ErrSyntax}, {0, "  x", 0, 2, api.ErrSyntax}, {0, "+ 7", 0, 1, api.ErrSyntax}, {0, "-\n7", 0, 1, api.ErrSyntax}, {0, " - 7", 0, 2, api.ErrSyntax}, {0, "+", 0, 1, api.ErrSyntax}, {0, " -", 0, 2, api.ErrSyntax}, {0, "--7", 0, 1, api.ErrSyntax}, {0, "+-7", 0, 1, api.ErrSyntax}, {0, "-x", 0, 1, api.ErrSyntax}, {0, ".5", 0, 0, api.ErrSyntax}, {0, "-.5", 0, 1, api.ErrSyntax}, {0, "\u0661", 0, 0, api.ErrSyntax}, {0, "*7", 0, 0, api.ErrSyntax}, {0, ",7", 0, 0, api.ErrSyntax},

		// the end
		{0, "", 0, 0, api.ErrEnd}, {0, "  ", 0, 2, api.ErrEnd}, {0, "\t\n\f ", 0, 4, api.ErrEnd},

		// numbers at max and above it
		{0, "2147483647", 2147483647, 10, api.OK}, {0, "-2147483647", -2147483647, 11, api.OK}, {0, "2147483648;", 0, 10, api.ErrRange}, {0, "-2147483648", 0, 11, api.ErrRange}, {0, " +2147483648 1", 0, 12, api.ErrRange}, {0, many(1000, "9") + "x", 0, 1000, api.ErrRange},
		{-1, "32767", 32767, 5, api.OK}, {-1, "-32767", -32767, 6, api.OK}, {-1, "32768", 0, 5, api.ErrRange}, {-1, "-32768", 0, 6, api.ErrRange}, {-1, "-00032767", -32767, 9, api.OK},
		{1, "999999999999999999", 999999999999999999, 18, api.OK}, {1, "-999999999999999999", -999999999999999999, 19, api.OK}, {1, "1000000000000000000", 0, 19, api.ErrRange}, {1, "-1000000000000000000", 0, 20, api.ErrRange},
	})
}

// P3.7
func TestReadReal(t *testing.T) {
	for _, c := range []struct {
		size int
		s    string
		want api.Real
		used int
		e    api.Errno
	}{
		{0, "12", r(12, 0), 2, api.OK}, {0, "+1.5", r(15, -1), 4, api.OK}, {0, "-1.5", r(-15, -1), 4, api.OK}, {0, "-.5", r(-5, -1), 3, api.OK}, {0, ".5e-1", r(5, -2), 5, api.OK}, {0, "1.50e+2", r(15, 1), 7, api.OK}, {0, "0", r(0, 0), 1, api.OK}, {0, "-0", r(0, 0), 2, api.OK}, {0, "-0.0e9", r(0, 0), 6, api.OK}, {0, "1.50e-2", r(15, -3), 7, api.OK},
		{0, " -.5e1x", r(-5, 0), 6, api.OK}, {0, "\t\n\f 1", r(1, 0), 5, api.OK},

		// as many characters as make a text that Real accepts
		{0, "5.x", r(5, 0), 1, api.OK}, {0, "5.", r(5, 0), 1, api.OK}, {0, "5.e1", r(5, 0), 1, api.OK}, {0, "5..6", r(5, 0), 1, api.OK}, {0, "5. 6", r(5, 0), 1, api.OK}, {0, "5.6.7", r(56, -1), 3, api.OK}, {0, ".5.6", r(5, -1), 2, api.OK}, {0, "5 .6", r(5, 0), 1, api.OK},
		{0, "1e", r(1, 0), 1, api.OK}, {0, "1e+", r(1, 0), 1, api.OK}, {0, "1e-", r(1, 0), 1, api.OK}, {0, "1e-x", r(1, 0), 1, api.OK}, {0, "1e 5", r(1, 0), 1, api.OK}, {0, "1e+ 5", r(1, 0), 1, api.OK}, {0, "1e--5", r(1, 0), 1, api.OK}, {0, "1ee5", r(1, 0), 1, api.OK}, {0, "1E5", r(1, 0), 1, api.OK}, {0, "1e5e5", r(1, 5), 3, api.OK}, {0, "1e5.5", r(1, 5), 3, api.OK}, {0, "1e5-1", r(1, 5), 3, api.OK}, {0, "1.5e", r(15, -1), 3, api.OK}, {0, "-.5e+", r(-5, -1), 3, api.OK}, {0, "1-1", r(1, 0), 1, api.OK}, {0, "1.5-1", r(15, -1), 3, api.OK}, {0, "1a", r(1, 0), 1, api.OK}, {0, "1.a", r(1, 0), 1, api.OK}, {0, "1.5a", r(15, -1), 3, api.OK}, {0, "1ea", r(1, 0), 1, api.OK}, {0, "1e5a", r(1, 5), 3, api.OK},

		// no such text
		{0, ".x", r(0, 0), 0, api.ErrSyntax}, {0, ".", r(0, 0), 0, api.ErrSyntax}, {0, "-.", r(0, 0), 1, api.ErrSyntax}, {0, " +.e5", r(0, 0), 2, api.ErrSyntax}, {0, "e5", r(0, 0), 0, api.ErrSyntax}, {0, "-e5", r(0, 0), 1, api.ErrSyntax}, {0, "- 5", r(0, 0), 1, api.ErrSyntax}, {0, "-", r(0, 0), 1, api.ErrSyntax}, {0, " +", r(0, 0), 2, api.ErrSyntax}, {0, "x", r(0, 0), 0, api.ErrSyntax}, {0, "  x", r(0, 0), 2, api.ErrSyntax}, {0, "\r1", r(0, 0), 0, api.ErrSyntax}, {0, "\v1", r(0, 0), 0, api.ErrSyntax}, {0, "..5", r(0, 0), 0, api.ErrSyntax}, {0, "+-1", r(0, 0), 1, api.ErrSyntax},
		{0, "", r(0, 0), 0, api.ErrEnd}, {0, " \t\n\f", r(0, 0), 4, api.ErrEnd},

		// rounded, and overflow
		{-1, "12345675", r(1234568, 1), 8, api.OK}, {-1, "-12345675", r(-1234568, 1), 9, api.OK}, {-1, "-12345665x", r(-1234566, 1), 9, api.OK}, {0, "-5e-401", r(0, 0), 7, api.OK}, {0, "-51e-402", r(-1, -400), 8, api.OK}, {0, "1e-" + many(1000, "9") + "x", r(0, 0), 1003, api.OK},
		{0, "1e500", r(0, 0), 5, api.ErrRange}, {0, "-1e500", r(0, 0), 6, api.ErrRange}, {0, " 1e500x", r(0, 0), 6, api.ErrRange}, {-1, "-1e406", r(-1, 406), 6, api.OK}, {-1, "1e407 ", r(0, 0), 5, api.ErrRange}, {1, "-9e417", r(-9, 417), 6, api.OK}, {0, many(1000, "9") + "e", r(0, 0), 1000, api.ErrRange},
	} {
		if x, used, e := texts.ReadReal(c.size, c.s); x != c.want || used != c.used || e != c.e {
			t.Errorf("ReadReal(%d, %q) is %d, %d, %d, not %d, %d, %d", c.size, head(c.s), x, used, int(e), c.want, c.used, int(c.e))
		}
	}
}

// P3.7
func TestReadWord(t *testing.T) {
	zeros := many(16, "F")
	testReading(t, "ReadWord", texts.ReadWord, []readCase{
		{-1, zeros, 0, 16, api.OK}, {-1, zeros + "x", 0, 16, api.OK}, {-1, many(16, "T"), 65535, 16, api.OK}, {-1, " TFFFFFFFFFFFFFFTT", 32769, 17, api.OK}, {-1, "\t\n\f FFFFFFFFFFFFFTFT", 5, 20, api.OK}, {-1, zeros + zeros, 0, 16, api.OK}, {-1, "T" + zeros, 32768, 16, api.OK},
		{0, "T" + many(31, "F"), 2147483648, 32, api.OK}, {0, many(33, "T"), 4294967295, 32, api.OK}, {1, many(60, "T"), 1<<60 - 1, 60, api.OK}, {1, "T" + many(60, "F"), 1 << 59, 60, api.OK}, {1, many(58, "F") + "TF ", 2, 60, api.OK},

		// a character that is neither, or the end before all bits
		{-1, "TFx", 0, 2, api.ErrSyntax}, {-1, "TF", 0, 2, api.ErrSyntax}, {-1, many(15, "T"), 0, 15, api.ErrSyntax}, {-1, many(15, "T") + " T", 0, 15, api.ErrSyntax}, {-1, "t", 0, 0, api.ErrSyntax}, {-1, "f" + zeros, 0, 0, api.ErrSyntax}, {-1, "01", 0, 0, api.ErrSyntax}, {-1, " x", 0, 1, api.ErrSyntax}, {-1, "T F", 0, 1, api.ErrSyntax}, {0, many(31, "F"), 0, 31, api.ErrSyntax}, {0, many(31, "F") + "E", 0, 31, api.ErrSyntax}, {0, " " + many(31, "F") + "U", 0, 32, api.ErrSyntax}, {1, many(59, "T"), 0, 59, api.ErrSyntax},

		// there is no sign, and other characters are no blanks
		{-1, "+" + zeros, 0, 0, api.ErrSyntax}, {-1, "-" + zeros, 0, 0, api.ErrSyntax}, {-1, " +" + zeros, 0, 1, api.ErrSyntax}, {-1, "\r" + zeros, 0, 0, api.ErrSyntax}, {-1, "\v" + zeros, 0, 0, api.ErrSyntax}, {-1, "\x00" + zeros, 0, 0, api.ErrSyntax},

		{-1, "", 0, 0, api.ErrEnd}, {0, " ", 0, 1, api.ErrEnd}, {1, "\t\n\f ", 0, 4, api.ErrEnd},
	})
}

// P3.7: a size that is none is ErrArg, whatever the text is.
func TestReadSizes(t *testing.T) {
	for _, size := range badSizes {
		for _, s := range []string{"", "  ", "1", " 1", "x", " +", "1e999", many(60, "T"), " T"} {
			testReading(t, "ReadInt", texts.ReadInt, []readCase{{size, s, 0, 0, api.ErrArg}})
			testReading(t, "ReadWord", texts.ReadWord, []readCase{{size, s, 0, 0, api.ErrArg}})
			if x, used, e := texts.ReadReal(size, s); x != r(0, 0) || used != 0 || e != api.ErrArg {
				t.Errorf("ReadReal(%d, %q) is %d, %d, %d", size, s, x, used, int(e))
			}
		}
	}
	if n, used, e := texts.ReadInt(math.MinInt, " 12"); n != 0 || used != 0 || e != api.ErrArg {
		t.Error(n, used, int(e))
	}
}
