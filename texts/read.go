package texts

import (
	"environ/api"
	"environ/ints"
	"environ/reals"
)

// isBlank reports whether a character is skipped before a number.
func isBlank(c byte) bool { return c == 9 || c == 10 || c == 12 || c == 32 }

// blanks returns the number of blanks with which a text begins.
func blanks(s string) int {
	n := 0
	for n < len(s) && isBlank(s[n]) {
		n++
	}
	return n
}

// take reads blanks, perhaps a sign, and a denotation, which is as long as length says of a text that begins with it. It returns the denotation, whether the sign is -, and the index behind what was read, or where the error is.
func take(s string, length func(string) int) (text string, negative bool, at int, e api.Errno) {
	at = blanks(s)
	if at == len(s) {
		return "", false, at, api.ErrEnd
	}
	sign := signOf(s[at:])
	at += len(sign)
	n := length(s[at:])
	if n == 0 {
		return "", false, at, api.ErrSyntax
	}
	return s[at : at+n], sign == "-", at + n, api.OK
}

// ReadInt reads an integer from the beginning of a text.
func ReadInt(size int, s string) (int64, int, api.Errno) {
	if _, e := ints.Max(size); e != api.OK {
		return 0, 0, e
	}
	text, negative, at, e := take(s, func(s string) int { return len(leading(s, 10)) })
	if e != api.OK {
		return 0, at, e
	}
	n, e := Int(size, text)
	if negative {
		n = -n
	}
	return n, at, e
}

// ReadReal reads a real from the beginning of a text.
func ReadReal(size int, s string) (api.Real, int, api.Errno) {
	if _, e := reals.Digits(size); e != api.OK {
		return api.Real{}, 0, e
	}
	text, negative, at, e := take(s, func(s string) int { return scanReal(s).length })
	if e != api.OK {
		return api.Real{}, at, e
	}
	x, e := Real(size, text)
	if negative {
		x.M = -x.M
	}
	return x, at, e
}

// ReadWord reads the bits of a word from the beginning of a text.
func ReadWord(size int, s string) (int64, int, api.Errno) {
	width, e := ints.Width(size)
	if e != api.OK {
		return 0, 0, e
	}
	at := blanks(s)
	if at == len(s) {
		return 0, at, api.ErrEnd
	}
	w := int64(0)
	for end := at + width; at < end; at++ {
		if at == len(s) || s[at] != 'T' && s[at] != 'F' {
			return 0, at, api.ErrSyntax
		}
		w *= 2
		if s[at] == 'T' {
			w++
		}
	}
	return w, at, api.OK
}
