package strop_test

import (
	"math/rand/v2"
	"strings"
	"testing"

	"environ/api"
	"environ/strop"
)

// letter returns a letter of a text.
func letter(random *rand.Rand, letters string) string {
	i := random.IntN(len(letters))
	return letters[i : i+1]
}

// word returns a letter, and at most n letters and digits.
func word(random *rand.Rand, letters string, n int) string {
	s := letter(random, letters)
	for range random.IntN(n + 1) {
		s += letter(random, letters+"0123456789")
	}
	return s
}

// digits returns from 1 to n digits.
func digits(random *rand.Rand, letters string, n int) string {
	s := ""
	for range 1 + random.IntN(n) {
		s += letter(random, letters)
	}
	return s
}

// someReal returns the text of a real number.
func someReal(random *rand.Rand) string {
	s := digits(random, "0123456789", 3)
	form := random.IntN(3)
	switch form {
	case 0:
		s = ""
		fallthrough
	case 1:
		s += "." + digits(random, "0123456789", 3)
	}
	if form == 2 || random.IntN(2) == 0 {
		s += "e" + []string{"", "+", "-"}[random.IntN(3)] + digits(random, "0123456789", 3)
	}
	return s
}

// literal returns the text of a string or a format.
func literal(random *rand.Rand, format bool) string {
	s := ""
	for range random.IntN(5) {
		if format {
			s += []string{"a", " ", "#", "'", "\"$\"", "\"\"", "CO", "\" # \"", ".co"}[random.IntN(9)]
		} else {
			s += []string{"a", " ", "#", "'", "$", "\"", "CO", ".co"}[random.IntN(8)]
		}
	}
	return s
}

// someSymbol returns a symbol that Symbols could return, of any kind but SymEnd.
func someSymbol(random *rand.Rand) api.Symbol {
	kind := 1 + random.IntN(api.SymSign)
	text := ""
	switch kind {
	case api.SymBold:
		text = word(random, "ABCDEFGORSX", 4)
		if text == "CO" || text == "PR" {
			text = "COPR"
		}
	case api.SymTag:
		text = word(random, "abcdefgorsx", 4)
	case api.SymInt:
		text = digits(random, "0123456789", 4)
	case api.SymReal:
		text = someReal(random)
	case api.SymBits:
		text = []string{"2r" + digits(random, "01", 4), "4r" + digits(random, "0123", 4), "8r" + digits(random, "01234567", 4), "16r" + digits(random, "0123456789abcdef", 4)}[random.IntN(4)]
	case api.SymString:
		text = literal(random, false)
	case api.SymFormat:
		text = literal(random, true)
	case api.SymSign:
		signs := strings.Fields(signList)
		text = signs[random.IntN(len(signs))]
	}
	return sym(kind, text)
}

func someSymbols(random *rand.Rand) []api.Symbol {
	var l []api.Symbol
	for range random.IntN(8) {
		l = append(l, someSymbol(random))
	}
	return l
}

// expectAlike fails the test unless the symbols of a text are those of a list, but for their places.
func expectAlike(t *testing.T, text string, regime int, want []api.Symbol) {
	t.Helper()
	if l, f := strop.Symbols(text, regime); texts(l) != texts(want) || f != (api.Fault{}) {
		t.Errorf("Symbols(%q, %d) is %s %d, not %s", text, regime, texts(l), f, texts(want))
	}
}

// P4.4: Symbols of Text are the symbols, in every regime; so Check is OK for each of them.
func TestSymbolsOfText(t *testing.T) {
	random := source()
	for range 10000 {
		l := someSymbols(random)
		for _, x := range l {
			if e := strop.Check(x); e != api.OK {
				t.Errorf("Check of %s is %d", show([]api.Symbol{x}), int(e))
			}
		}
		for _, regime := range regimes {
			s, e := strop.Text(l, regime)
			if e != api.OK {
				t.Errorf("Text of %s is %d", show(l), int(e))
			}
			expectAlike(t, s, regime, l)
		}
	}
}

// P4.3, P4.4: what Symbols returns for any text is written in every regime, and read again; symbols ascend in At.
func TestTextOfSymbols(t *testing.T) {
	random := source()
	for _, from := range regimes {
		list := pieces(from)
		for range 20000 {
			text := ""
			for range 1 + random.IntN(6) {
				text += list[random.IntN(len(list))]
			}
			l, f := strop.Symbols(text, from)
			if f.Code != api.OK {
				if len(l) > 0 || f.At < 0 || f.At >= len(text) {
					t.Errorf("Symbols(%q, %d) is %s with the fault %d", text, from, show(l), f)
				}
				continue
			}
			if end := (api.Symbol{At: len(text)}); l[len(l)-1] != end {
				t.Errorf("Symbols(%q, %d) is %s", text, from, show(l))
			}
			for i, x := range l {
				if strop.Check(x) != api.OK || i > 0 && x.At <= l[i-1].At {
					t.Errorf("Symbols(%q, %d) is %s", text, from, show(l))
				}
			}
			for _, to := range regimes {
				s, _ := strop.Text(l, to)
				expectAlike(t, s, to, l)
			}
		}
	}
}

// gap returns blanks or comments; only comments, if tags or numbers stand on both sides.
func gap(random *rand.Rand, regime int, closed bool) string {
	co, comment := bold("CO", regime), bold("COMMENT", regime)
	comments := []string{"##", "# x 1 #", " # \" $ ' # ", "\n" + co + " x " + co + " ", " " + comment + " # " + co + " " + comment + "\t", " # # # # ", " " + bold("PR", regime) + " none " + bold("PR", regime) + " "}
	if closed {
		return comments[random.IntN(len(comments))]
	}
	l := append(comments, " ", "\n", "\t", "  \n\t ", "\n\n")
	return l[random.IntN(len(l))]
}

// P4.4: blanks between two symbols may be exchanged for others, or for comments.
func TestBlanksAndComments(t *testing.T) {
	random := source()
	for range 10000 {
		l := someSymbols(random)
		for _, regime := range regimes {
			text := gap(random, regime, false)
			for i := range l {
				s, _ := strop.Text(l[i:i+1], regime)
				if i > 0 {
					two, _ := strop.Text(l[i-1:i+1], regime)
					one, _ := strop.Text(l[i-1:i], regime)
					text += gap(random, regime, strings.HasPrefix(two[len(one):], " ## "))
				}
				text += s
			}
			expectAlike(t, text+gap(random, regime, false), regime, l)
		}
	}
}

// P4.4: a text in one regime behind a pragmat has the same symbols as without it in that regime.
func TestTextsBehindPragmats(t *testing.T) {
	random := source()
	names := []string{"upper", "point", "quote"}
	for _, from := range regimes {
		for _, to := range regimes {
			list := pieces(to)
			front := bold("pr", from) + " " + names[to] + " " + bold("pr", from) + " "
			for range 3000 {
				text := ""
				for range random.IntN(6) {
					text += list[random.IntN(len(list))]
				}
				l, f := strop.Symbols(text, to)
				behind, g := strop.Symbols(front+text, from)
				if f.Code != api.OK {
					f.At += len(front)
				}
				if texts(l) != texts(behind) || f != g {
					t.Errorf("Symbols(%q, %d) is %s %d, not %s %d", front+text, from, texts(behind), g, texts(l), f)
				}
			}
		}
	}
}

// anyText returns a text of any bytes, most of them such as texts have.
func anyText(random *rand.Rand) string {
	b := make([]byte, random.IntN(30))
	for i := range b {
		b[i] = byte(random.IntN(256))
		if random.IntN(20) > 0 {
			b[i] = byte(32 + random.IntN(95))
		}
	}
	return string(b)
}

// P1, P2: every call returns, equal calls have equal results, and no argument is changed; with an error the result is nothing.
func TestCalls(t *testing.T) {
	random := source()
	for range 30000 {
		text, regime := anyText(random), random.IntN(5)-1
		l, f := strop.Symbols(text, regime)
		again, g := strop.Symbols(text, regime)
		if f != g || !equal(l, again) || f.Code != api.OK && len(l) > 0 {
			t.Errorf("Symbols(%q, %d) is %s %d and %s %d", text, regime, show(l), f, show(again), g)
		}
		symbols := []api.Symbol{someSymbol(random), {Kind: random.IntN(11) - 1, Text: text, At: random.IntN(9)}, someSymbol(random)}
		kept := append([]api.Symbol{}, symbols...)
		s, e := strop.Text(symbols, regime)
		s2, e2 := strop.Text(symbols, regime)
		if s != s2 || e != e2 || e != api.OK && s != "" || !equal(symbols, kept) {
			t.Errorf("Text of %s is %q %d and %q %d", show(kept), s, int(e), s2, int(e2))
		}
		if e, e2 := strop.Check(symbols[1]), strop.Check(symbols[1]); e != e2 || e != api.OK && e != api.ErrForm && e != api.ErrKind {
			t.Errorf("Check of %s is %d and %d", show(symbols[1:2]), int(e), int(e2))
		}
	}
}

// P1: long texts that look like the beginning of something, again and again.
func TestLongTexts(t *testing.T) {
	for _, s := range []string{"1e", "1 ", "1e+ ", "a ", "'a", "'", ". ", ".a", "COa", "CO 1", "\"\"", "\"", "$", "$\"", "#", "2r ", "1 . ", ":", ":/", "%*:", "'co' 'a", ".co x", "PR x ", "A ", "\n", "e ", "16r", ".5"} {
		for _, regime := range regimes {
			text := many(65536/len(s), s)
			if l, f := strop.Symbols(text, regime); f.Code == api.OK && l[len(l)-1].At != len(text) {
				t.Errorf("Symbols of many %q in %d end at %d", s, regime, l[len(l)-1].At)
			}
		}
	}
}
