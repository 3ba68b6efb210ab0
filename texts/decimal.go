package texts

import (
	"strings"

	"environ/api"
	"environ/reals"
)

// lowest is the least exponent of reals.
const lowest = -400

// denotation is the longest beginning of a text that denotes a real, by its parts. Its length is 0 if there is none.
type denotation struct {
	whole, fraction string // the digits before and behind the point
	exponent        string // its digits
	below           bool   // the exponent has the sign -
	length          int
}

// scanReal finds the denotation at the beginning of a text. A point or an e belongs to it only if digits follow.
func scanReal(s string) denotation {
	d := denotation{whole: leading(s, 10)}
	d.length = len(d.whole)
	if rest, ok := strings.CutPrefix(s[d.length:], "."); ok {
		d.fraction = leading(rest, 10)
		if d.fraction != "" {
			d.length += len(".") + len(d.fraction)
		}
	}
	if d.length == 0 {
		return d
	}
	rest, ok := strings.CutPrefix(s[d.length:], "e")
	if !ok {
		return d
	}
	sign := signOf(rest)
	d.exponent = leading(rest[len(sign):], 10)
	if d.exponent != "" {
		d.below = sign == "-"
		d.length += len("e") + len(sign) + len(d.exponent)
	}
	return d
}

// signOf returns the sign with which a text begins, or no text.
func signOf(s string) string {
	if s != "" && (s[0] == '+' || s[0] == '-') {
		return s[:1]
	}
	return ""
}

// decimal is digits of any number, none for 0, the first of which is not 0, times 10 to the power of exp.
type decimal struct {
	digits string
	exp    int
}

// number returns the number that a denotation is. No text has digits enough to make up for an exponent of beyond or more, so that one of them stands for all.
func (d denotation) number() decimal {
	exp := int(value(d.exponent, 10))
	if d.below {
		exp = -exp
	}
	return decimal{
		digits: strings.TrimLeft(d.whole+d.fraction, "0"),
		exp:    exp - len(d.fraction),
	}
}

// round returns the nearest real of a size, of two the one with the even factor, or ErrRange if it overflows. It rounds here, because so many digits as decide do not fit an argument of reals.Make, which is given no more of them than the size has.
func (x decimal) round(size int) (api.Real, api.Errno) {
	p, _ := reals.Digits(size)
	last := max(x.exp, x.exp+len(x.digits)-p, lowest)
	head, tail := x.cut(last - x.exp)
	m := value(head, 10)
	if aboveHalf(tail) || isHalf(tail) && m%2 != 0 {
		m++
	}
	return reals.Make(size, reals.Nearest, m, last)
}

// cut returns the digits before the last k ones, and these; no digits at all, if there are fewer, because the number is below a tenth of a unit then.
func (x decimal) cut(k int) (head, tail string) {
	n := len(x.digits) - k
	if n < 0 {
		return "", ""
	}
	return x.digits[:n], x.digits[n:]
}

// isHalf reports whether the digits behind a unit are just one half of it.
func isHalf(tail string) bool {
	return tail != "" && tail[0] == '5' && strings.Trim(tail[1:], "0") == ""
}

// aboveHalf reports whether the digits behind a unit are more than one half of it.
func aboveHalf(tail string) bool {
	return tail != "" && tail[0] >= '5' && !isHalf(tail)
}
