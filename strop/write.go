package strop

import (
	"strings"

	"environ/api"
)

// Text returns a text in a regime whose symbols are those of a list, up to its first SymEnd.
func Text(l []api.Symbol, regime int) (string, api.Errno) {
	if !isRegime(regime) {
		return "", api.ErrArg
	}
	var b strings.Builder
	for i, x := range l {
		if e := Check(x); e != api.OK {
			return "", e
		}
		if x.Kind == api.SymEnd {
			break
		}
		if b.Len() > api.MaxSource {
			// A symbol with an error may still come, and is told first.
			continue
		}
		if i > 0 {
			b.WriteString(space(l[i-1], x))
		}
		b.WriteString(written(x, regime))
	}
	if b.Len() > api.MaxSource {
		return "", api.ErrLimit
	}
	return b.String(), api.OK
}

// written returns a symbol as it is written in a regime.
func written(x api.Symbol, regime int) string {
	switch x.Kind {
	case api.SymBold:
		return boldIn(x.Text, regime)
	case api.SymString:
		return `"` + strings.ReplaceAll(x.Text, `"`, `""`) + `"`
	case api.SymFormat:
		return "$" + x.Text + "$"
	}
	return x.Text
}

// boldIn returns a bold word as it is written in a regime.
func boldIn(word string, regime int) string {
	switch regime {
	case Point:
		return "." + strings.ToLower(word)
	case Quote:
		return "'" + strings.ToLower(word) + "'"
	}
	return word
}

// space returns what stands between two symbols. Tags and numbers would become one symbol if only a blank stood there.
func space(a, b api.Symbol) string {
	if isOpen(a) && isOpen(b) {
		return " ## "
	}
	return " "
}

// isOpen reports whether a symbol is a tag or a number, which may go on behind a blank.
func isOpen(x api.Symbol) bool {
	switch x.Kind {
	case api.SymTag, api.SymInt, api.SymReal, api.SymBits:
		return true
	}
	return false
}
