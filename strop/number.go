package strop

import (
	"strings"

	"environ/api"
)

// number adds the number that begins here.
func (s *scanner) number() api.Fault {
	kind, text, end := s.longestNumber()
	if letters(text) > maxNumber {
		return s.faultHere(api.ErrLimit)
	}
	if kind == api.SymBits && !areBits(text) {
		return s.faultHere(api.ErrRange)
	}
	return s.add(kind, text, end)
}

// letters counts the letters and digits of a number. Its point and its sign are none.
func letters(text string) int {
	n := 0
	for i := range len(text) {
		if isSmallOrDigit(text[i]) {
			n++
		}
	}
	return n
}

// longestNumber returns the kind of the number that begins here, its text without blanks, and the index behind it.
func (s *scanner) longestNumber() (kind int, text string, end int) {
	kind = api.SymInt
	text, end = s.run(s.at, isDigit)
	if digits, to := s.radixDigits(end); digits != "" {
		return api.SymBits, text + "r" + digits, to
	}
	if point := s.skip(end); s.peek(point) == '.' && isDigit(s.peek(point+1)) {
		digits, to := s.run(point+1, isDigit)
		kind, text, end = api.SymReal, text+"."+digits, to
	}
	if exponent, to := s.exponent(end); exponent != "" {
		kind, text, end = api.SymReal, text+exponent, to
	}
	return kind, text, end
}

// radixDigits returns the digits behind an r that stands at a place, or no text.
func (s *scanner) radixDigits(at int) (string, int) {
	letter := s.skip(at)
	if s.char(letter) != 'r' {
		return "", at
	}
	return s.run(letter+1, isHex)
}

// exponent returns the exponent that stands at a place, or no text.
func (s *scanner) exponent(at int) (string, int) {
	letter := s.skip(at)
	if s.char(letter) != 'e' {
		return "", at
	}
	text := "e"
	from := s.skip(letter + 1)
	if c := s.peek(from); c == '+' || c == '-' {
		text += s.text[from : from+1]
		from++
	}
	digits, end := s.run(from, isDigit)
	if digits == "" {
		return "", at
	}
	return text + digits, end
}

// areBits reports whether a number with an r has a radix that there is, and only digits that it has.
func areBits(text string) bool {
	radix, digits, _ := strings.Cut(text, "r")
	over := ""
	switch radix {
	case "2":
		over = "23456789abcdef"
	case "4":
		over = "456789abcdef"
	case "8":
		over = "89abcdef"
	case "16":
	default:
		return false
	}
	return !strings.ContainsAny(digits, over)
}
