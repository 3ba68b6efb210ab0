package texts_test

import (
	"fmt"
	"math/big"
	"math/rand/v2"
	"regexp"
	"strings"
	"testing"

	"environ/api"
	"environ/texts"
)

// The oracle finds texts by patterns, and computes numbers a second time, as fractions of any length.

const (
	digitsPattern = `[0-9]+`
	realPattern   = `([0-9]+(\.[0-9]+)?|\.[0-9]+)(e[+-]?[0-9]+)?`
	bitsPattern   = `2r[01]+|4r[0-3]+|8r[0-7]+|16r[0-9a-f]+`
)

// whole returns what matches a pattern for all of a text.
func whole(pattern string) *regexp.Regexp { return regexp.MustCompile(`\A(?:` + pattern + `)\z`) }

// every calls see with a text, and with all texts of at most n letters more behind it.
func every(letters, s string, n int, see func(s string)) {
	see(s)
	if n == 0 {
		return
	}
	for _, c := range letters {
		every(letters, s+string(c), n-1, see)
	}
}

// precision returns the digits of a size.
func precision(size int) int {
	return map[int]int{api.Short: 7, api.Plain: 15, api.Long: 18}[size]
}

// ten returns 10 to the power of n as a fraction.
func ten(n int) *big.Rat {
	p := new(big.Rat).SetInt(new(big.Int).Exp(big.NewInt(10), big.NewInt(int64(max(n, -n))), nil))
	if n < 0 {
		p.Inv(p)
	}
	return p
}

// fraction returns the number that a Real is.
func fraction(x api.Real) *big.Rat {
	return new(big.Rat).Mul(new(big.Rat).SetInt64(x.M), ten(x.E))
}

// fractionOf returns the number that a text is for package big.
func fractionOf(s string) *big.Rat {
	n, ok := new(big.Rat).SetString(s)
	if !ok {
		panic("not a number: " + s)
	}
	return n
}

// half is one half.
func half() *big.Rat { return big.NewRat(1, 2) }

// evenly rounds a number that is not negative to a whole one, of two to the even one.
func evenly(n *big.Rat) *big.Int {
	m, rest := new(big.Int).QuoRem(n.Num(), n.Denom(), new(big.Int))
	if c := new(big.Rat).SetFrac(rest, n.Denom()).Cmp(half()); c > 0 || c == 0 && m.Bit(0) == 1 {
		m.Add(m, big.NewInt(1))
	}
	return m
}

// wantReal rounds a number that is not negative to the nearest real: to units of the least power of 10 of which there are few enough.
func wantReal(size int, n *big.Rat) (api.Real, api.Errno) {
	p := precision(size)
	least := -400
	if digits := new(big.Int).Quo(n.Num(), n.Denom()).String(); digits != "0" { // not far below the exponent that is looked for
		least = max(least, len(digits)-p-1)
	}
	for e := least; e <= 400; e++ {
		m := evenly(new(big.Rat).Mul(n, ten(-e)))
		if m.Sign() == 0 {
			return api.Real{}, api.OK
		}
		if len(m.String()) > p {
			continue
		}
		digits := strings.TrimRight(m.String(), "0")
		e += len(m.String()) - len(digits)
		m.SetString(digits, 10)
		return r(m.Int64(), e), api.OK
	}
	return api.Real{}, api.ErrRange
}

// P3.1, against the oracle: all short texts of the characters of integers and reals.
func TestShortTexts(t *testing.T) {
	is, isReal := whole(digitsPattern), whole(realPattern)
	every("10.e+- ", "", 7, func(s string) {
		n, e := texts.Int(api.Short, s)
		x, f := texts.Real(api.Plain, s)
		if is.MatchString(s) != (e != api.ErrSyntax) || e != api.OK && n != 0 {
			t.Errorf("Int of %q is %d, %d", s, n, int(e))
		}
		want, wantErrno := api.Real{}, api.ErrSyntax
		if isReal.MatchString(s) {
			want, wantErrno = wantReal(api.Plain, fractionOf(s))
		}
		if x != want || f != wantErrno {
			t.Errorf("Real of %q is %d, %d, not %d, %d", s, x, int(f), want, int(wantErrno))
		}
	})
}

// P3.1, against the oracle: all short texts of the characters of words.
func TestShortWords(t *testing.T) {
	pattern := whole(bitsPattern)
	every("1248r063f", "", 6, func(s string) {
		w, e := texts.Bits(api.Long, s)
		if !pattern.MatchString(s) {
			if w != 0 || e != api.ErrSyntax {
				t.Errorf("Bits of %q is %d, %d", s, w, int(e))
			}
			return
		}
		radix, digits, _ := strings.Cut(s, "r")
		base := map[string]int{"2": 2, "4": 4, "8": 8, "16": 16}[radix]
		if want, _ := new(big.Int).SetString(digits, base); e != api.OK || !want.IsInt64() || want.Int64() != w {
			t.Errorf("Bits of %q is %d, %d", s, w, int(e))
		}
	})
}

// P3.1: every byte is a digit of each radix, or none, as the chapter says; so are those that ReadInt, ReadReal and ReadWord take or skip.
func TestEveryByte(t *testing.T) {
	for c := range 256 {
		s := string([]byte{byte(c)})
		want := strings.Index("0123456789abcdef", s)
		for name, radix := range map[string]int{"2": 2, "4": 4, "8": 8, "16": 16} {
			w, e := texts.Bits(api.Plain, name+"r"+s)
			if ok := want >= 0 && want < radix; ok != (e == api.OK) || ok && w != int64(want) {
				t.Errorf("Bits of %q is %d, %d", name+"r"+s, w, int(e))
			}
		}
		n, e := texts.Int(api.Plain, s)
		if ok := want >= 0 && want < 10; ok != (e == api.OK) || ok && n != int64(want) {
			t.Errorf("Int of %q is %d, %d", s, n, int(e))
		}
		isBlank := strings.Contains("\t\n\f ", s)
		n, used, e := texts.ReadInt(api.Plain, s+"7")
		if ok := isBlank || s == "+" || s == "-" || want >= 0 && want < 10; ok != (e == api.OK) || ok && used != 2 {
			t.Errorf("ReadInt of %q is %d, %d, %d", s+"7", n, used, int(e))
		}
		w, used, e := texts.ReadWord(api.Short, s+many(15, "T")+s)
		if ok := s == "T" || s == "F"; ok != (e == api.OK) || ok && used != 16 {
			t.Errorf("ReadWord of %q is %d, %d, %d", s+"..", w, used, int(e))
		}
	}
}

// P3.7, against the oracle: all short texts of the characters of numbers and blanks.
func TestShortReading(t *testing.T) {
	blanks, sign := regexp.MustCompile(`\A[\x09\x0a\x0c\x20]*`), regexp.MustCompile(`\A[+-]?`)
	integer, number := regexp.MustCompile(`\A`+digitsPattern), regexp.MustCompile(`\A(?:`+realPattern+`)`)
	integer.Longest()
	number.Longest()
	// wantRead returns the characters of the number, how many were read, and the error.
	wantRead := func(s string, pattern *regexp.Regexp) (string, int, api.Errno) {
		at := len(blanks.FindString(s))
		if at == len(s) {
			return "0", at, api.ErrEnd
		}
		from := at
		at += len(sign.FindString(s[at:]))
		n := len(pattern.FindString(s[at:]))
		if n == 0 {
			return "0", at, api.ErrSyntax
		}
		return s[from : at+n], at + n, api.OK
	}
	every("1.e+-x\n ", "", 5, func(s string) {
		text, at, e := wantRead(s, integer)
		n, used, f := texts.ReadInt(api.Plain, s)
		if used != at || e != f || fractionOf(text).Cmp(new(big.Rat).SetInt64(n)) != 0 {
			t.Errorf("ReadInt of %q is %d, %d, %d", s, n, used, int(f))
		}
		text, at, e = wantRead(s, number)
		x, used, f := texts.ReadReal(api.Plain, s)
		if used != at || e != f || fractionOf(text).Cmp(fraction(x)) != 0 {
			t.Errorf("ReadReal of %q is %d, %d, %d", s, x, used, int(f))
		}
	})
}

// someDigits returns digits, often such as are next to a tie or to one digit more.
func someDigits(random *rand.Rand, n int) string {
	s := make([]byte, n)
	kind := random.IntN(4)
	for i := range s {
		s[i] = byte('0' + random.IntN(10))
		switch {
		case kind == 1 && i > random.IntN(20):
			s[i] = '9'
		case kind == 2 && i > random.IntN(20):
			s[i] = '0'
		}
	}
	if kind == 3 && n > 3 {
		copy(s[random.IntN(n):], "5000000000000000000000000000000")
	}
	return string(s)
}

// P3.1 and P3.7, against the oracle: texts of some digits, with a point and an exponent.
func TestRoundedTexts(t *testing.T) {
	random := source()
	for i := range 8000 {
		s := someDigits(random, 1+random.IntN(30))
		if random.IntN(2) == 0 {
			s += "." + someDigits(random, 1+random.IntN(30))
		}
		switch i % 8 {
		case 0:
			s = fmt.Sprint(s, "e", random.IntN(80)-40)
		case 1:
			s = fmt.Sprint(s, "e-", 370+random.IntN(70))
		case 2:
			s = fmt.Sprint(s, "e+", 360+random.IntN(60))
		}
		for _, size := range goodSizes {
			want, e := wantReal(size, fractionOf(s))
			if x, f := texts.Real(size, s); x != want || e != f {
				t.Errorf("Real(%d, %q) is %d, %d, not %d, %d", size, s, x, int(f), want, int(e))
			}
			want.M = -want.M
			if x, used, f := texts.ReadReal(size, " -"+s+" "); x != want || used != len(s)+2 || e != f {
				t.Errorf("ReadReal(%d, %q) is %d, %d, %d, not %d, %d", size, " -"+s+" ", x, used, int(f), want, int(e))
			}
		}
	}
}

// some returns a real of a size with an exponent from low on, of the given number of exponents.
func some(random *rand.Rand, size, low, exponents int) api.Real {
	digits := strings.TrimRight(someDigits(random, 1+random.IntN(precision(size))), "0")
	m, _ := new(big.Int).SetString("0"+digits, 10)
	if m.Sign() == 0 {
		return api.Real{}
	}
	return r(m.Int64()*int64(1-2*random.IntN(2)), low+random.IntN(exponents))
}

// wantSign returns the sign of a text.
func wantSign(x api.Real, width int) string {
	if x.M < 0 {
		return "-"
	}
	return map[bool]string{true: "+"}[width > 0]
}

// wantFill returns the first of some texts that is short enough, with blanks, or error characters.
func wantFill(width int, list ...string) string {
	if width == 0 {
		return list[0]
	}
	for _, s := range list {
		if len(s) <= max(width, -width) {
			return fmt.Sprintf("%*s", max(width, -width), s)
		}
	}
	return many(max(width, -width), "*")
}

// wantFixed puts all texts that there are for a number one behind the other, by the chapter's words. Package big rounds halves away from 0.
func wantFixed(x api.Real, width, after int) string {
	n := fraction(x)
	n.Abs(n)
	var list []string
	for a := after; a >= 0; a-- {
		s := n.FloatString(a)
		list = append(list, wantSign(x, width)+s)
		if before, behind, ok := strings.Cut(s, "."); ok && before == "0" {
			list = append(list, wantSign(x, width)+"."+behind)
		}
	}
	return wantFill(width, list...)
}

// wantFloat looks for the least exponent with which there is one digit before the point.
func wantFloat(x api.Real, width, after, exp int) string {
	n := fraction(x)
	n.Abs(n)
	power, digits := 0, n.FloatString(after)
	if x.M != 0 {
		power = x.E - 1
		for before := "many"; len(before) > 1; before, _, _ = strings.Cut(digits, ".") {
			power++
			digits = new(big.Rat).Mul(n, ten(-power)).FloatString(after)
		}
	}
	text := fmt.Sprint(power)
	if exp > 0 {
		text = fmt.Sprintf("%+d", power)
	}
	if exp != 0 {
		text = wantFill(exp, text)
	}
	if text[0] == '*' {
		return many(max(1, width, -width), "*")
	}
	return wantFill(width, wantSign(x, width)+digits+"e"+text)
}

// holdWritten compares Fixed and Float with the oracle.
func holdWritten(t *testing.T, x api.Real, width, after, exp int) {
	t.Helper()
	if want, s := wantFixed(x, width, after), texts.Fixed(x, width, after); s != want {
		t.Errorf("Fixed(%d, %d, %d) is %q, not %q", x, width, after, s, want)
	}
	if want, s := wantFloat(x, width, after, exp), texts.Float(x, width, after, exp); s != want {
		t.Errorf("Float(%d, %d, %d, %d) is %q, not %q", x, width, after, exp, s, want)
	}
}

// P3.4 and P3.5, against the oracle: numbers near 1 with all widths that are next to their lengths, and some others.
func TestWrittenTexts(t *testing.T) {
	random := source()
	for range 600 {
		x := some(random, goodSizes[random.IntN(3)], -20, 30)
		after := random.IntN(8)
		for width := -14; width <= 14; width++ {
			holdWritten(t, x, width, after, random.IntN(9)-4)
		}
	}
	for range 300 {
		x := some(random, api.Long, -400, 801)
		holdWritten(t, x, 0, random.IntN(501), 0)
		holdWritten(t, x, random.IntN(1200)-600, random.IntN(501), random.IntN(14)-7)
	}
}

// P3.4 and P3.5, against the oracle: each number of at most three digits, near the point.
func TestSmallNumbers(t *testing.T) {
	for m := int64(-999); m < 1000; m++ {
		if m%10 == 0 && m != 0 {
			continue
		}
		for e := -4; e <= 1; e++ {
			if m == 0 && e != 0 {
				continue
			}
			for after := range 4 {
				width := (int(m)+e+after)%7 + 1 // one of few, another one for each
				holdWritten(t, r(m, e), width, after, e)
			}
		}
	}
}

// P3.3, against the oracle.
func TestWrittenIntegers(t *testing.T) {
	random := source()
	for range 3000 {
		n := random.Int64() >> random.IntN(64) * int64(1-2*random.IntN(2))
		for _, width := range []int{0, random.IntN(50) - 25, 1 + len(fmt.Sprint(n)), len(fmt.Sprint(n)), -len(fmt.Sprint(n)), 1 - len(fmt.Sprint(n))} {
			s := fmt.Sprint(n)
			if width > 0 {
				s = fmt.Sprintf("%+d", n)
			}
			if want := wantFill(width, s); texts.Whole(n, width) != want {
				t.Errorf("Whole(%d, %d) is %q, not %q", n, width, texts.Whole(n, width), want)
			}
		}
	}
}
