package ints_test

import (
	"fmt"
	"math/big"
	"strings"
	"testing"

	"environ/api"
)

// The oracle computes results a second time, with numbers of any length and with words as texts of bits, so that it shares no way of computing with the package.

func greatest(size int) *big.Int {
	digits := map[int]string{api.Short: "32767", api.Plain: "2147483647", api.Long: "999999999999999999"}
	n, _ := new(big.Int).SetString(digits[size], 10)
	return n
}

func bits(size int) int {
	return map[int]int{api.Short: 16, api.Plain: 32, api.Long: 60}[size]
}

func isInt(size int, n *big.Int) bool {
	return n.CmpAbs(greatest(size)) <= 0
}

func isWord(size int, w *big.Int) bool {
	return w.Sign() >= 0 && w.BitLen() <= bits(size)
}

// fitting returns a result, or ErrRange if it is not an integer of the size.
func fitting(size int, n *big.Int) (int64, api.Errno) {
	if !isInt(size, n) {
		return 0, api.ErrRange
	}
	return n.Int64(), api.OK
}

// word returns the bits of a word as a text.
func word(size int, w int64) string {
	return fmt.Sprintf("%0*b", bits(size), w)
}

// ofWord returns the word with these bits.
func ofWord(text string) (int64, api.Errno) {
	n, ok := new(big.Int).SetString(text, 2)
	if !ok {
		panic("not a word: " + text)
	}
	return n.Int64(), api.OK
}

func isSize(size int) bool {
	return size == api.Short || size == api.Plain || size == api.Long
}

func wantUnary(name string, size int, a int64) (int64, api.Errno) {
	n := big.NewInt(a)
	switch name {
	case "Is":
		return number(isSize(size) && isInt(size, n)), api.OK
	case "IsWord":
		return number(isSize(size) && isWord(size, n)), api.OK
	}
	if !isSize(size) {
		return 0, api.ErrArg
	}
	switch name {
	case "Max":
		return greatest(size).Int64(), api.OK
	case "Width":
		return int64(bits(size)), api.OK
	case "Not", "AbsWord", "LengWord", "ShortenWord":
		return wantOfWord(name, size, n)
	}
	return wantOfInt(name, size, n)
}

func wantOfInt(name string, size int, n *big.Int) (int64, api.Errno) {
	if name == "Leng" && size == api.Long || name == "Shorten" && size == api.Short {
		return 0, api.ErrArg
	}
	if !isInt(size, n) {
		return 0, api.ErrRange
	}
	switch name {
	case "Neg":
		return fitting(size, new(big.Int).Neg(n))
	case "Abs":
		return fitting(size, new(big.Int).Abs(n))
	case "Sign":
		return int64(n.Sign()), api.OK
	case "Odd":
		return int64(n.Bit(0)), api.OK
	case "Leng":
		return n.Int64(), api.OK
	case "Shorten":
		return fitting(size-1, n)
	case "Bin":
		if !isWord(size, n) {
			return 0, api.ErrRange
		}
		return n.Int64(), api.OK
	}
	panic("no such function: " + name)
}

func wantOfWord(name string, size int, n *big.Int) (int64, api.Errno) {
	if name == "LengWord" && size == api.Long || name == "ShortenWord" && size == api.Short {
		return 0, api.ErrArg
	}
	if !isWord(size, n) {
		return 0, api.ErrRange
	}
	text := word(size, n.Int64())
	switch name {
	case "Not":
		return ofWord(strings.NewReplacer("0", "1", "1", "0").Replace(text))
	case "AbsWord":
		return fitting(size, n)
	case "LengWord":
		return ofWord("0" + text)
	case "ShortenWord":
		lost := bits(size) - bits(size-1)
		if strings.Contains(text[:lost], "1") {
			return 0, api.ErrRange
		}
		return ofWord(text[lost:])
	}
	panic("no such function: " + name)
}

func wantBinary(name string, size int, a, b int64) (int64, api.Errno) {
	if !isSize(size) {
		return 0, api.ErrArg
	}
	m, n := big.NewInt(a), big.NewInt(b)
	switch name {
	case "And", "Or":
		if !isWord(size, m) || !isWord(size, n) {
			return 0, api.ErrRange
		}
		return wantBitwise(name, word(size, a), word(size, b))
	case "Shift":
		if !isWord(size, m) {
			return 0, api.ErrRange
		}
		return wantShift(word(size, a), b)
	case "Elem":
		if !isWord(size, n) || a < 1 || a > int64(bits(size)) {
			return 0, api.ErrRange
		}
		return number(word(size, b)[a-1] == '1'), api.OK
	case "Pow":
		if !isInt(size, m) || b < 0 {
			return 0, api.ErrRange
		}
		return wantPow(size, m, n)
	}
	if !isInt(size, m) || !isInt(size, n) {
		return 0, api.ErrRange
	}
	return wantOfInts(name, size, m, n)
}

func wantBitwise(name, v, w string) (int64, api.Errno) {
	text := ""
	for i := range v {
		both := v[i] == '1' && w[i] == '1'
		one := v[i] == '1' || w[i] == '1'
		text += fmt.Sprint(number(name == "And" && both || name == "Or" && one))
	}
	return ofWord(text)
}

func wantShift(text string, n int64) (int64, api.Errno) {
	width := int64(len(text))
	n = max(-width, min(n, width))
	for ; n > 0; n-- {
		text = text[1:] + "0"
	}
	for ; n < 0; n++ {
		text = "0" + text[:width-1]
	}
	return ofWord(text)
}

func wantPow(size int, a, n *big.Int) (int64, api.Errno) {
	if a.CmpAbs(big.NewInt(1)) > 0 && n.Cmp(big.NewInt(64)) > 0 {
		return 0, api.ErrRange
	}
	// Of 0, 1 and -1 all powers from 2 on are known by whether the exponent is odd.
	if n.Cmp(big.NewInt(64)) > 0 {
		n = big.NewInt(2 + int64(n.Bit(0)))
	}
	return fitting(size, new(big.Int).Exp(a, n, nil))
}

func wantOfInts(name string, size int, m, n *big.Int) (int64, api.Errno) {
	if (name == "Over" || name == "Mod") && n.Sign() == 0 {
		return 0, api.ErrRange
	}
	r := new(big.Int)
	switch name {
	case "Add":
		return fitting(size, r.Add(m, n))
	case "Sub":
		return fitting(size, r.Sub(m, n))
	case "Mul":
		return fitting(size, r.Mul(m, n))
	case "Over":
		return fitting(size, r.Quo(m, n))
	case "Mod":
		return fitting(size, r.Mod(m, n))
	}
	panic("no such function: " + name)
}

// TestAgainstOracle holds P1.1 to P1.4, and the order of the errors, at all edges of all sizes and of what is none.
func TestAgainstOracle(t *testing.T) {
	sizes := append(append([]int{}, goodSizes...), badSizes...)
	numbers := edges()
	for name, f := range unaries() {
		for _, size := range sizes {
			for _, a := range numbers {
				n, e := wantUnary(name, size, a)
				m, g := f(size, a)
				expect(t, fmt.Sprintf("%s(%d, %d)", name, size, a), n, e, m, g)
			}
		}
	}
	for name, f := range binaries() {
		for _, size := range sizes {
			for _, a := range numbers {
				for _, b := range numbers {
					n, e := wantBinary(name, size, a, b)
					m, g := f(size, a, b)
					if n != m || e != g {
						expect(t, fmt.Sprintf("%s(%d, %d, %d)", name, size, a, b), n, e, m, g)
					}
				}
			}
		}
	}
}
