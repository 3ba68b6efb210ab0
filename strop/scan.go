package strop

import (
	"strings"

	"environ/api"
)

// maxNumber is how many letters and digits a number may have.
const maxNumber = 100

// signs are all signs, each one behind those that begin with it.
var signs = [...]string{
	":/=:", "%*:=",
	":=:", "+:=", "-:=", "*:=", "/:=", "%:=", "+=:",
	"|:", ":=", "/=", "<=", ">=", "**", "//", "%*", "+*",
	"(", ")", "[", "]", ",", ";", ":", "@", "|", "=", "<", ">", "+", "-", "*", "/", "%", "^", "&", "~",
}

// scanner goes through a text, and collects its symbols.
type scanner struct {
	text   string
	regime int
	at     int // where the next symbol, or comment, begins
	list   []api.Symbol
}

// peek returns a byte of the text, or 0, which no text has, behind its end.
func (s *scanner) peek(i int) byte {
	if i >= len(s.text) {
		return 0
	}
	return s.text[i]
}

// skip returns the index of the first byte from a place on that is no blank.
func (s *scanner) skip(i int) int {
	for isBlank(s.peek(i)) {
		i++
	}
	return i
}

// char returns the small letter or the digit that a byte is for tags and numbers in the regime, or 0.
func (s *scanner) char(i int) byte {
	c := s.peek(i)
	if isCapital(c) && s.regime != Upper {
		return c - 'A' + 'a'
	}
	if isSmallOrDigit(c) {
		return c
	}
	return 0
}

// run returns the letters and digits of a kind from a place on, without the blanks before each of them, and the index behind the last one, or the place, if there is none.
func (s *scanner) run(at int, is func(byte) bool) (string, int) {
	var b strings.Builder
	end := at
	for i := s.skip(at); is(s.char(i)); i = s.skip(end) {
		b.WriteByte(s.char(i))
		end = i + 1
	}
	return b.String(), end
}

// bold returns the bold word that begins at a place, and the index behind it, or no text.
func (s *scanner) bold(at int) (string, int) {
	if s.regime == Upper {
		if !isCapital(s.peek(at)) {
			return "", at
		}
		end := s.endOf(at, isCapitalOrDigit)
		return s.text[at:end], end
	}
	mark := byte('.')
	if s.regime == Quote {
		mark = '\''
	}
	if s.peek(at) != mark || !isLetter(s.peek(at+1)) {
		return "", at
	}
	end := s.endOf(at+1, isLetterOrDigit)
	word := strings.ToUpper(s.text[at+1 : end])
	if s.regime == Quote {
		if s.peek(end) != mark {
			return "", at
		}
		end++
	}
	return word, end
}

// endOf returns the index of the first byte from a place on that is not of a kind.
func (s *scanner) endOf(i int, is func(byte) bool) int {
	for is(s.peek(i)) {
		i++
	}
	return i
}

// step goes behind the symbol or the comment that begins here.
func (s *scanner) step() api.Fault {
	c := s.text[s.at]
	switch {
	case c == '#':
		return s.comment()
	case c == '"':
		return s.quotation()
	case c == '$':
		return s.format()
	case isDigit(c) || c == '.' && isDigit(s.peek(s.at+1)):
		return s.number()
	case isSmall(s.char(s.at)):
		text, end := s.run(s.at, isSmallOrDigit)
		return s.addShort(api.SymTag, text, end)
	}
	if word, end := s.bold(s.at); word != "" {
		return s.word(word, end)
	}
	return s.sign()
}

// add adds the symbol that begins here, and goes behind it.
func (s *scanner) add(kind int, text string, end int) api.Fault {
	s.list = append(s.list, api.Symbol{Kind: kind, Text: text, At: s.at})
	s.at = end
	return api.Fault{}
}

// addShort adds a bold word or a tag, if it is short enough.
func (s *scanner) addShort(kind int, text string, end int) api.Fault {
	if len(text) > api.MaxName {
		return s.faultHere(api.ErrLimit)
	}
	return s.add(kind, text, end)
}

// faultHere returns a fault of what begins here.
func (s *scanner) faultHere(e api.Errno) api.Fault { return api.Fault{At: s.at, Code: e} }

// word adds a bold word, or goes behind what it begins.
func (s *scanner) word(word string, end int) api.Fault {
	switch word {
	case "CO", "COMMENT":
		return s.remark(word, end, false)
	case "PR", "PRAGMAT":
		return s.remark(word, end, true)
	}
	return s.addShort(api.SymBold, word, end)
}

// sign adds the longest sign that begins here.
func (s *scanner) sign() api.Fault {
	for _, sign := range signs {
		if strings.HasPrefix(s.text[s.at:], sign) {
			return s.add(api.SymSign, sign, s.at+len(sign))
		}
	}
	if !isOfText(s.text[s.at]) {
		return s.faultHere(api.ErrForm)
	}
	return s.faultHere(api.ErrSyntax)
}

// quotation adds a string.
func (s *scanner) quotation() api.Fault {
	i := s.at + 1
	for {
		if f := s.literal(i); f.Code != api.OK {
			return f
		}
		if s.text[i] == '"' {
			if s.peek(i+1) != '"' {
				break
			}
			i++
		}
		i++
	}
	return s.add(api.SymString, strings.ReplaceAll(s.text[s.at+1:i], `""`, `"`), i+1)
}

// format adds a format. Two quotes in one of its strings end this string and begin another one, which is the same here.
func (s *scanner) format() api.Fault {
	i, within := s.at+1, false
	for ; within || s.peek(i) != '$'; i++ {
		if f := s.literal(i); f.Code != api.OK {
			return f
		}
		if s.text[i] == '"' {
			within = !within
		}
	}
	return s.add(api.SymFormat, s.text[s.at+1:i], i+1)
}

// literal returns the fault of a place in the string or format that begins here, if it cannot go on there.
func (s *scanner) literal(i int) api.Fault {
	switch {
	case i == len(s.text):
		return s.faultHere(api.ErrEnd)
	case !isOfText(s.text[i]):
		return api.Fault{At: i, Code: api.ErrForm}
	case !isPrinted(s.text[i]):
		return api.Fault{At: i, Code: api.ErrSyntax}
	}
	return api.Fault{}
}
