package indicants

import (
	"strings"

	"environ/api"
)

// What a word is declared as: the kinds of declarations.
const (
	noKind = iota
	asMode
	asPrio
	asOp
)

// declared is a declaration of a word in a range.
type declared struct {
	at, kind int
	word     string
}

// run is where the search stands in a range.
type run struct {
	kind int // of the declarations that go on behind a comma
	open int // how many [ are open at the level of the range
}

// search finds the declarations of a list of symbols that has no end.
type search struct {
	list  []api.Symbol
	end   api.Symbol
	table *Table
	seen  map[declared]bool
	runs  []run // of each range
}

// at returns the symbol with an index, or the end.
func (s *search) at(i int) api.Symbol {
	if i < len(s.list) {
		return s.list[i]
	}
	return s.end
}

// declarations enters into the table what its ranges declare, up to the first fault.
func (s *search) declarations() api.Fault {
	for i, x := range s.list {
		r := s.table.At[i]
		switch {
		case isSign(x, "["):
			s.runs[r].open++
		case isSign(x, "]"):
			s.runs[r].open--
		case s.runs[r].open > 0:
			// It is in a group, and so at the level of no range.
		case isSign(x, ";"), isBold(x, "EXIT"):
			s.runs[r].kind = noKind
		case isSign(x, ","):
			if f := s.goOn(r, i+1); f.Code != api.OK {
				return f
			}
		case kindOf(x) != noKind:
			if f := s.begin(r, kindOf(x), i+1); f.Code != api.OK {
				return f
			}
		}
	}
	return api.Fault{}
}

// kindOf returns the kind of declarations that begin with a symbol.
func kindOf(x api.Symbol) int {
	switch {
	case isBold(x, "MODE"):
		return asMode
	case isBold(x, "PRIO"):
		return asPrio
	case isBold(x, "OP"):
		return asOp
	}
	return noKind
}

// begin declares in a range what stands behind the word that begins a declaration, if it is one.
func (s *search) begin(r, kind, i int) api.Fault {
	if x := s.at(i); !Operator(x) {
		return api.Fault{At: x.At, Code: api.ErrName}
	}
	if s.isDeclaration(kind, i) {
		s.runs[r].kind = kind
		return s.declare(r, kind, i)
	}
	if kind == asPrio && s.isNamed(kind, i) {
		return api.Fault{At: s.at(i + 2).At, Code: api.ErrRange}
	}
	return api.Fault{}
}

// goOn declares in a range what stands behind a comma, if it is of the kind that was begun; if not, that kind goes on no more.
func (s *search) goOn(r, i int) api.Fault {
	kind := s.runs[r].kind
	if kind == noKind || !s.isDeclaration(kind, i) {
		s.runs[r].kind = noKind
		return api.Fault{}
	}
	return s.declare(r, kind, i)
}

// isNamed reports whether a word that can be declared, and =, stand at an index.
func (s *search) isNamed(kind, i int) bool {
	x := s.at(i)
	return Operator(x) && (kind != asMode || x.Kind == api.SymBold) && isSign(s.at(i+1), "=")
}

// isDeclaration reports whether a declaration of a kind has its word at an index: without an integer behind = nothing has a priority declared.
func (s *search) isDeclaration(kind, i int) bool {
	return s.isNamed(kind, i) && (kind != asPrio || s.at(i+2).Kind == api.SymInt)
}

// declare enters a declaration, whose word stands at an index.
func (s *search) declare(r, kind, i int) api.Fault {
	x := s.at(i)
	if s.isTwice(r, kind, x.Text) {
		return api.Fault{At: x.At, Code: api.ErrTwice}
	}
	s.seen[declared{r, kind, x.Text}] = true
	to := &s.table.Ranges[r]
	switch kind {
	case asMode:
		to.Modes = append(to.Modes, x.Text)
	case asOp:
		to.Ops = append(to.Ops, x.Text)
	case asPrio:
		number := s.at(i + 2)
		level := levelOf(number)
		if level == 0 {
			return api.Fault{At: number.At, Code: api.ErrRange}
		}
		to.Prios = append(to.Prios, Prio{Op: x.Text, Level: level})
	}
	return api.Fault{}
}

// isTwice reports whether a range must not declare a word as a kind, because of what it has declared.
func (s *search) isTwice(r, kind int, word string) bool {
	switch kind {
	case asMode:
		return s.seen[declared{r, asMode, word}] || s.seen[declared{r, asPrio, word}] || s.seen[declared{r, asOp, word}]
	case asPrio:
		return s.seen[declared{r, asMode, word}] || s.seen[declared{r, asPrio, word}]
	}
	return s.seen[declared{r, asMode, word}]
}

// levelOf returns the priority that an integer says, or 0.
func levelOf(x api.Symbol) int {
	digit := strings.TrimLeft(x.Text, "0")
	if len(digit) != 1 || digit < "1" || "9" < digit {
		return 0
	}
	return int(digit[0] - '0')
}
