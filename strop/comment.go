package strop

import (
	"strings"

	"environ/api"
)

// comment goes behind the comment that begins with # here.
func (s *scanner) comment() api.Fault {
	for i := s.at + 1; i < len(s.text); i++ {
		if !isOfText(s.text[i]) {
			return api.Fault{At: i, Code: api.ErrForm}
		}
		if s.text[i] == '#' {
			s.at = i + 1
			return api.Fault{}
		}
	}
	return s.faultHere(api.ErrEnd)
}

// remark goes behind the comment or pragmat that begins with a bold word here, whose inner text begins at a place.
func (s *scanner) remark(word string, from int, pragmat bool) api.Fault {
	for i := from; i < len(s.text); {
		if !isOfText(s.text[i]) {
			return api.Fault{At: i, Code: api.ErrForm}
		}
		found, end := s.bold(i)
		if found == word && !s.joined(i) {
			if pragmat {
				s.set(s.text[from:i])
			}
			s.at = end
			return api.Fault{}
		}
		i = max(i+1, end)
	}
	return s.faultHere(api.ErrEnd)
}

// joined reports whether what looks like a bold word in a comment is none for what stands directly before it.
func (s *scanner) joined(i int) bool {
	return s.regime == Upper && isSmallOrDigit(s.text[i-1])
}

// set sets the regime that the inner text of a pragmat names, if it names one.
func (s *scanner) set(pragmat string) {
	switch strings.ToLower(strings.Trim(pragmat, "\t\n ")) {
	case "upper":
		s.regime = Upper
	case "point":
		s.regime = Point
	case "quote":
		s.regime = Quote
	}
}
