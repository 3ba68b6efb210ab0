package texts

import (
	"strconv"
	"strings"

	"environ/api"
	"environ/ints"
	"environ/reals"
)

// maxWidth and maxAfter are the greatest width, and the most digits behind a point, that can be asked for.
const (
	maxWidth = 1000
	maxAfter = 500
)

// isWidth reports whether a width can be asked for.
func isWidth(width int) bool { return -maxWidth <= width && width <= maxWidth }

// isAfter reports whether so many digits behind a point can be asked for.
func isAfter(after int) bool { return 0 <= after && after <= maxAfter }

// isReal reports whether a Real is valid for any size. All reals are also long ones.
func isReal(x api.Real) bool { return reals.Valid(api.Long, x) }

// room returns the number of characters that a width asks for.
func room(width int) int { return max(width, -width) }

// failure returns the error characters that a width asks for.
func failure(width int) string { return strings.Repeat("*", max(1, room(width))) }

// signIn returns the sign of a number in a text of a width.
func signIn(negative bool, width int) string {
	switch {
	case negative:
		return "-"
	case width > 0:
		return "+"
	}
	return ""
}

// fill returns a text with blanks before it for the characters that a width asks for (0 asks for none), or error characters, if it has too many.
func fill(text string, width int) string {
	if width == 0 {
		return text
	}
	blanks := room(width) - len(text)
	if blanks < 0 {
		return failure(width)
	}
	return strings.Repeat(" ", blanks) + text
}

// Whole returns an integer as a text.
func Whole(n int64, width int) string {
	if !isWidth(width) {
		return failure(0)
	}
	digits := strings.TrimPrefix(strconv.FormatInt(n, 10), "-")
	return fill(signIn(n < 0, width)+digits, width)
}

// Fixed returns a real as a text without an exponent, with fewer digits behind the point than asked for if only these fit.
func Fixed(x api.Real, width, after int) string {
	if !isAfter(after) || !isWidth(width) || !isReal(x) {
		return failure(0)
	}
	front := signIn(x.M < 0, width)
	for a := after; a >= 0; a-- {
		text := front + places(x, a)
		if len(text) == room(width)+1 {
			text = front + withoutZero(text[len(front):])
		}
		if width == 0 || len(text) <= room(width) {
			return fill(text, width)
		}
	}
	return failure(width)
}

// withoutZero returns decimal digits without a 0 that stands alone before the point.
func withoutZero(digits string) string {
	if strings.HasPrefix(digits, "0.") {
		return digits[1:]
	}
	return digits
}

// places returns the decimal digits of x with some behind the point.
func places(x api.Real, after int) string {
	digits := units(x, -after)
	digits = zeros(max(0, after+1-len(digits))) + digits
	point := len(digits) - after
	return withPoint(digits[:point], digits[point:])
}

// withPoint puts a point between digits, if there are any behind it.
func withPoint(before, behind string) string {
	if behind == "" {
		return before
	}
	return before + "." + behind
}

func zeros(n int) string { return strings.Repeat("0", n) }

// units returns the digits of |x| in units of 10 to the power of last, rounded, of two equally near numbers to the greater.
func units(x api.Real, last int) string {
	m := max(x.M, -x.M)
	if x.E >= last {
		return strconv.FormatInt(m, 10) + zeros(x.E-last)
	}
	// Of the digits that are left out the first one decides.
	for range last - 1 - x.E {
		m /= 10
	}
	return strconv.FormatInt((m+5)/10, 10)
}

// Float returns a real as a text with an exponent.
func Float(x api.Real, width, after, exp int) string {
	if !isAfter(after) || !isWidth(width) || !isWidth(exp) || !isReal(x) {
		return failure(0)
	}
	digits, power := scaled(x, after+1)
	exponent := Whole(int64(power), exp)
	if exponent[0] == '*' {
		return failure(width)
	}
	number := withPoint(digits[:1], digits[1:])
	return fill(signIn(x.M < 0, width)+number+"e"+exponent, width)
}

// scaled returns the first n digits of |x|, rounded, and the power of 10 that the first one counts. The first digit of 0 is 0, and counts ones.
func scaled(x api.Real, n int) (string, int) {
	power := x.E + len(units(x, x.E)) - 1
	digits := units(x, power-n+1)
	if len(digits) > n {
		// Nines have become a 1 with zeros.
		return digits[:n], power + 1
	}
	return digits, power
}

// Word returns T or F for each bit of a word.
func Word(size int, w int64) (string, api.Errno) {
	width, e := ints.Width(size)
	if e != api.OK {
		return "", e
	}
	if !ints.IsWord(size, w) {
		return "", api.ErrRange
	}
	letters := make([]byte, width)
	for i := range letters {
		letters[i] = 'F'
		if one, _ := ints.Elem(size, int64(i+1), w); one {
			letters[i] = 'T'
		}
	}
	return string(letters), api.OK
}
