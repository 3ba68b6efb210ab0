package texts_test

import (
	"fmt"
	"math"
	"math/big"
	"strings"
	"testing"

	"environ/api"
	"environ/ints"
	"environ/reals"
	"environ/texts"
)

// sample returns reals of a size: its edges and others.
func sample(size int) []api.Real {
	random := source()
	p := precision(size)
	top, _ := new(big.Int).SetString(many(p, "9"), 10)
	list := []api.Real{r(0, 0)}
	for _, m := range []int64{1, 2, 5, 9, 15, 99, top.Int64(), top.Int64() - 1} {
		for _, e := range []int{-400, -399, -20, -p, -p + 1, -2, -1, 0, 1, 5, 20, 400} {
			list = append(list, r(m, e), r(-m, e))
		}
	}
	for range 100 {
		list = append(list, some(random, size, -20, 30), some(random, size, -400, 801))
	}
	return list
}

// integers returns integers of a size: its edges and others.
func integers(size int) []int64 {
	random := source()
	top, _ := ints.Max(size)
	list := []int64{0, 1, -1, 9, -9, 10, -10, 99, 100, top, -top, top - 1, 1 - top, top / 2}
	for range 100 {
		list = append(list, random.Int64N(top), -random.Int64N(top))
	}
	return list
}

// widths returns widths in which a text of some characters fits, and has a place to spare, or is the text itself.
func widths(length int) []int {
	return []int{0, length + 1, length + 3, -length - 1, -length - 3, 1000, -1000}
}

// expectRead fails the test unless a text is read back as a real, all of it.
func expectRead(t *testing.T, size int, s string, want api.Real) {
	t.Helper()
	if x, used, e := texts.ReadReal(size, s); x != want || used != len(s) || e != api.OK {
		t.Errorf("ReadReal(%d, %q) is %d, %d, %d, not %d, %d", size, s, x, used, int(e), want, len(s))
	}
}

// P3.8: what Whole writes is read back.
func TestWholeIsReadBack(t *testing.T) {
	for _, size := range goodSizes {
		for _, n := range integers(size) {
			for _, width := range widths(len(fmt.Sprint(n))) {
				s := texts.Whole(n, width)
				if m, used, e := texts.ReadInt(size, s); m != n || used != len(s) || e != api.OK {
					t.Errorf("ReadInt(%d, %q) is %d, %d, %d, not %d", size, s, m, used, int(e), n)
				}
			}
		}
	}
}

// P3.8: what Fixed with enough digits writes is read back, if they all have room.
func TestFixedIsReadBack(t *testing.T) {
	for _, size := range goodSizes {
		for _, x := range sample(size) {
			for _, after := range []int{max(0, -x.E), max(0, -x.E) + 1, 500} {
				length := len(texts.Fixed(x, 0, after))
				for _, width := range widths(length) {
					if length < 1000 || width == 0 {
						expectRead(t, size, texts.Fixed(x, width, after), x)
					}
				}
			}
		}
	}
	expectRead(t, api.Plain, texts.Fixed(r(5, -1), -2, 1), r(5, -1)) // without the 0
	expectRead(t, api.Plain, texts.Fixed(r(-5, -1), -3, 1), r(-5, -1))
}

// P3.8: what Float with enough digits writes is read back, if no blanks stand in the exponent, before which no text of a real goes on.
func TestFloatIsReadBack(t *testing.T) {
	for _, size := range goodSizes {
		for _, x := range sample(size) {
			for _, after := range []int{precision(size) - 1, precision(size), 500} {
				plain := texts.Float(x, 0, after, 0)
				_, power, _ := strings.Cut(plain, "e")
				signed := len(strings.TrimPrefix(power, "-")) + 1 // as many characters as the exponent and its sign have
				for _, exp := range []int{0, signed, -len(power)} {
					length := len(texts.Float(x, 0, after, exp))
					for _, width := range widths(length) {
						expectRead(t, size, texts.Float(x, width, after, exp), x)
					}
				}
			}
		}
	}
}

// P3.8: what Word writes is read back.
func TestWordIsReadBack(t *testing.T) {
	random := source()
	for _, size := range goodSizes {
		width, _ := ints.Width(size)
		list := []int64{0, 1, 1 << (width - 1), 1<<width - 1, 1<<width - 2}
		for range 100 {
			list = append(list, random.Int64N(1<<width))
		}
		for _, w := range list {
			s, e := texts.Word(size, w)
			if v, used, f := texts.ReadWord(size, s); len(s) != width || v != w || used != len(s) || e != api.OK || f != api.OK {
				t.Errorf("ReadWord(%d, %q) is %d, %d, %d, not %d", size, s, v, used, int(f), w)
			}
		}
	}
}

// P3.2: Real returns each valid real that is not negative from its denotation.
func TestDenotationIsReal(t *testing.T) {
	for _, size := range goodSizes {
		for _, x := range sample(size) {
			s := texts.Denote(x)
			expectRead(t, size, s, x)
			y, e := texts.Real(size, s)
			if x.M >= 0 && (y != x || e != api.OK) {
				t.Errorf("Real(%d, %q) is %d, %d", size, s, y, int(e))
			}
			if x.M < 0 && e != api.ErrSyntax {
				t.Errorf("Real(%d, %q) is %d, %d", size, s, y, int(e))
			}
		}
	}
}

// P3.8: Fixed with more digits never has a text for a number that is further away.
func TestMoreDigitsAreNearer(t *testing.T) {
	for _, x := range append(sample(api.Long), sample(api.Short)...) {
		exact := fraction(x)
		var before *big.Rat
		for after := range 30 {
			away := fractionOf(texts.Fixed(x, 0, after))
			away.Sub(away, exact).Abs(away)
			if before != nil && away.Cmp(before) > 0 {
				t.Errorf("Fixed of %d is %q, and then %q", x, texts.Fixed(x, 0, after-1), texts.Fixed(x, 0, after))
			}
			before = away
		}
	}
}

// anyNumbers are numbers for each argument that is one.
func anyNumbers() []int {
	return []int{math.MinInt, math.MinInt + 1, -1001, -1000, -501, -20, -3, -2, -1, 0, 1, 2, 3, 9, 18, 500, 501, 1000, 1001, math.MaxInt}
}

// anyReals are Reals, also such as are valid for no size.
func anyReals() []api.Real {
	list := []api.Real{r(10, 0), r(0, 1), r(1, -401), r(1, 418), r(-1, 418), r(1e18, 0)}
	for _, m := range []int64{math.MinInt64, math.MinInt64 + 1, -7, 0, 3, 995, 999999999999999999, math.MaxInt64} {
		for _, e := range []int{math.MinInt, -401, -400, -3, -1, 0, 2, 400, 417, math.MaxInt} {
			list = append(list, r(m, e))
		}
	}
	return list
}

// anyTexts are texts, also such as are no denotations.
func anyTexts() []string {
	list := []string{"", " ", "\t\n\f\r\v", "+", "-", ".", "e", "r", "1", "-1", " 12 ", "1.5e3", "1e", "1e-", ".e5", "2r1", "16rfF", "2r", "\x00\xff", many(16, "T"), many(60, "F"), many(59, "F"), "TFTx", "\u0661", "\u00a01"}
	for _, s := range []string{"0", "9", " ", "1.", "f", "T", "+", "e9", "2r1"} {
		list = append(list, many(5000, s), many(5000, s)+"1", "1e"+many(5000, s), "16r"+many(5000, s))
	}
	return list
}

// everyCall makes calls of each function, also with arguments that are none, and gives each with its results to see.
func everyCall(see func(call string, zero bool, used int, s string, e api.Errno)) {
	sizes := append(append([]int{}, goodSizes...), badSizes...)
	for i, s := range anyTexts() {
		for _, size := range sizes {
			n, e := texts.Int(size, s)
			see(fmt.Sprint("Int ", size, i), n == 0, 0, fmt.Sprint(n), e)
			x, e := texts.Real(size, s)
			see(fmt.Sprint("Real ", size, i), x == r(0, 0), 0, fmt.Sprint(x), e)
			n, e = texts.Bits(size, s)
			see(fmt.Sprint("Bits ", size, i), n == 0, 0, fmt.Sprint(n), e)
			n, used, e := texts.ReadInt(size, s)
			see(fmt.Sprint("ReadInt ", size, i), n == 0, used, fmt.Sprint(n), e)
			x, used, e = texts.ReadReal(size, s)
			see(fmt.Sprint("ReadReal ", size, i), x == r(0, 0), used, fmt.Sprint(x), e)
			n, used, e = texts.ReadWord(size, s)
			see(fmt.Sprint("ReadWord ", size, i), n == 0, used, fmt.Sprint(n), e)
		}
	}
	for _, n := range append(integers(api.Long), math.MinInt64, math.MaxInt64) {
		for _, size := range sizes {
			s, e := texts.Word(size, n)
			see(fmt.Sprint("Word ", size, n), s == "", 0, s, e)
		}
	}
}

// everyText makes calls of each function that writes a text of a width, also with arguments that are none.
func everyText(see func(call string, width int, s string)) {
	for _, width := range anyNumbers() {
		for _, n := range append(integers(api.Long), math.MinInt64, math.MaxInt64) {
			see(fmt.Sprint("Whole ", n, " ", width), width, texts.Whole(n, width))
		}
		for _, x := range anyReals() {
			for _, after := range anyNumbers() {
				see(fmt.Sprint("Fixed ", x, width, after), width, texts.Fixed(x, width, after))
				for _, exp := range []int{math.MinInt, -1001, -1000, -4, -2, 0, 1, 4, 1000, 1001, math.MaxInt} {
					see(fmt.Sprint("Float ", x, width, after, exp), width, texts.Float(x, width, after, exp))
				}
			}
		}
	}
}

// P1: every call returns; with an error its result is zero, but for the number of characters.
func TestResults(t *testing.T) {
	everyCall(func(call string, zero bool, used int, s string, e api.Errno) {
		if e != api.OK && !zero {
			t.Error(call, "has the error", int(e), "and the result", s)
		}
		if e == api.ErrArg && used != 0 || used < 0 {
			t.Error(call, "has read", used, "characters, with the error", int(e))
		}
		if e != api.OK && e != api.ErrArg && e != api.ErrSyntax && e != api.ErrRange && e != api.ErrEnd {
			t.Error(call, "has the error", int(e))
		}
	})
}

// P3.8: texts with a width have just so many characters, or are one error character; others are no error characters but one.
func TestWidthsAreKept(t *testing.T) {
	everyText(func(call string, width int, s string) {
		if s != "*" && width != 0 && len(s) != width && len(s) != -width {
			t.Errorf("%s is %q", call, s)
		}
		if stars := strings.Count(s, "*"); stars != 0 && stars != len(s) || stars > 1 && width == 0 || s == "" {
			t.Errorf("%s is %q", call, s)
		}
	})
}

// P2: equal calls have equal results, whatever was called between them.
func TestEqualCalls(t *testing.T) {
	before := map[string]string{}
	hold := func(call, result string) {
		if old, ok := before[call]; ok && old != result {
			t.Errorf("%s is %q and was %q", call, result, old)
		}
		before[call] = result
	}
	for range 2 {
		everyCall(func(call string, _ bool, used int, s string, e api.Errno) { hold(call, fmt.Sprint(s, used, int(e))) })
		everyText(func(call string, _ int, s string) { hold(call, s) })
	}
}

// What is valid here is what layer 2 says.
func TestSampleIsValid(t *testing.T) {
	for _, size := range goodSizes {
		for _, x := range sample(size) {
			if !reals.Valid(size, x) {
				t.Errorf("%d is no real of the size %d", x, size)
			}
		}
	}
}
