package brackets

import "environ/api"

// What a symbol is among the brackets.
const (
	other = iota
	opening
	middle
	closing
)

// What may come next in a group at its level.
const (
	onlyEnd        = iota // the closing bracket
	onlyFirst             // pair.first
	firstOrEnd            // pair.first, or the closing bracket
	againLastOrEnd        // pair.again, pair.last, or the closing bracket
)

// pair is an opening and a closing bracket, and what may stand in them: first, then any number of times again and first, then perhaps last.
type pair struct {
	kind                             int
	open, first, again, last, closed string
	begins                           int // what may come next behind open
}

// pairs are those of the chapter. No two of them have a text in common.
var pairs = [...]pair{
	{kind: api.SymBold, open: "BEGIN", closed: "END", begins: onlyEnd},
	{kind: api.SymSign, open: "[", closed: "]", begins: onlyEnd},
	{kind: api.SymBold, open: "DO", closed: "OD", begins: onlyEnd},
	{kind: api.SymBold, open: "IF", first: "THEN", again: "ELIF", last: "ELSE", closed: "FI", begins: onlyFirst},
	{kind: api.SymBold, open: "CASE", first: "IN", again: "OUSE", last: "OUT", closed: "ESAC", begins: onlyFirst},
	{kind: api.SymSign, open: "(", first: "|", again: "|:", last: "|", closed: ")", begins: firstOrEnd},
}

// role returns what a symbol is among the brackets, and the index of its pair.
func role(x api.Symbol) (int, int) {
	if x.Text == "" {
		// It would be the same as what a pair does not have.
		return other, 0
	}
	for i, p := range pairs {
		if x.Kind != p.kind {
			continue
		}
		switch x.Text {
		case p.open:
			return opening, i
		case p.first, p.again, p.last:
			return middle, i
		case p.closed:
			return closing, i
		}
	}
	return other, 0
}

// follow returns what may come next behind a text that stands in a group of the pair, and whether it may stand there.
func (p pair) follow(next int, text string) (int, bool) {
	switch next {
	case onlyFirst, firstOrEnd:
		return againLastOrEnd, text == p.first
	case againLastOrEnd:
		if text == p.again {
			return onlyFirst, true
		}
		return onlyEnd, text == p.last
	}
	return onlyEnd, false
}
