package strop_test

import (
	"regexp"
	"strings"
	"testing"

	"environ/api"
	"environ/strop"
)

// The oracle finds the symbols of texts a second time, by patterns.

const signList = "( ) [ ] , ; : @ | |: := :=: :/=: = /= < <= > >= + - * / % ^ & ~ ** // %* +* +:= -:= *:= /:= %:= %*:= +=:"

// oracle has the patterns of a regime. Those of what ends with a mark have the end of the text instead, if the mark is missing.
type oracle struct {
	blanks, tag, bits, real, digits, bold, word *regexp.Regexp
	quotation, format, comment                  *regexp.Regexp
}

// pattern makes a pattern, in which B stands for blanks, L for the letters of tags, E, R and H for those of numbers, and D for digits with blanks between them.
func pattern(p string, regime int) *regexp.Regexp {
	small := strings.NewReplacer("L", "a-z", "E", "e", "R", "r", "H", "0-9a-f")
	if regime != strop.Upper {
		small = strings.NewReplacer("L", "a-zA-Z", "E", "[eE]", "R", "[rR]", "H", "0-9a-fA-F")
	}
	p = strings.ReplaceAll(p, "D", "[0-9](?:B[0-9])*")
	p = strings.ReplaceAll(p, "B", `[\t\n ]*`)
	return regexp.MustCompile(`\A(?:` + small.Replace(p) + `)`)
}

// boldPattern is the pattern of a bold word, with what makes it none in a comment in front of it.
func boldPattern(regime int) string {
	return map[int]string{
		strop.Upper: `[a-z0-9]?[A-Z][A-Z0-9]*`,
		strop.Point: `\.[A-Za-z][A-Za-z0-9]*`,
		strop.Quote: `'[A-Za-z][A-Za-z0-9]*'`,
	}[regime]
}

func newOracle(regime int) oracle {
	word := boldPattern(regime)
	return oracle{
		blanks:    pattern("B", regime),
		tag:       pattern("[L](?:B[L0-9])*", regime),
		bits:      pattern("DBRB[H](?:B[H])*", regime),
		real:      pattern(`(?:DB)?\.D(?:BE(?:B[+-])?BD)?|DBE(?:B[+-])?BD`, regime),
		digits:    pattern("D", regime),
		bold:      regexp.MustCompile(`\A` + strings.TrimPrefix(word, "[a-z0-9]?")),
		word:      regexp.MustCompile(word),
		quotation: regexp.MustCompile(`\A"(?:[^"]|"")*("|\z)`),
		format:    regexp.MustCompile(`\A\$(?:[^"$]|"[^"]*")*(?:(\$)|"[^"]*\z|\z)`),
		comment:   regexp.MustCompile(`\A#[^#]*(#|\z)`),
	}
}

// oracles are those of the regimes.
func oracles() []oracle {
	return []oracle{newOracle(strop.Upper), newOracle(strop.Point), newOracle(strop.Quote)}
}

func fault(at int, e api.Errno) api.Fault { return api.Fault{At: at, Code: e} }

// wrongByte returns the index of the first byte of a text that no text has, or, with blanks, that strings and formats do not have, and its error.
func wrongByte(s string, literal bool) (int, api.Errno) {
	for i := range len(s) {
		switch c := s[i]; {
		case c == '\t' || c == '\n':
			if literal {
				return i, api.ErrSyntax
			}
		case c < ' ' || c > '~':
			return i, api.ErrForm
		}
	}
	return 0, api.OK
}

// enclosed returns the fault of a string, a format or a comment at a place.
func enclosed(at int, s string, literal, ended bool) api.Fault {
	if i, e := wrongByte(s, literal); e != api.OK {
		return fault(at+i, e)
	}
	if !ended {
		return fault(at, api.ErrEnd)
	}
	return api.Fault{}
}

// remark returns the text of a comment or pragmat that begins with a bold word, what stands in it, and whether it ends.
func (o oracle) remark(rest, opening string) (all, inner string, ended bool) {
	from := len(opening)
	for _, w := range o.word.FindAllStringIndex(rest[from:], -1) {
		if strings.EqualFold(rest[from+w[0]:from+w[1]], opening) {
			return rest[:from+w[1]], rest[from : from+w[0]], true
		}
	}
	return rest, "", false
}

func without(s, cut string) string {
	return strings.Map(func(c rune) rune {
		if strings.ContainsRune(cut, c) {
			return -1
		}
		return c
	}, s)
}

// letters counts the letters and digits of a text.
func letters(s string) int { return len(without(s, ".+-\t\n '")) }

func longestSign(s string) string {
	longest := ""
	for _, sign := range strings.Fields(signList) {
		if strings.HasPrefix(s, sign) && len(sign) > len(longest) {
			longest = sign
		}
	}
	return longest
}

// short returns a symbol, or ErrLimit, if its text has too many letters and digits.
func short(kind int, text string, most int) (api.Symbol, api.Errno) {
	if letters(text) > most {
		return api.Symbol{}, api.ErrLimit
	}
	return api.Symbol{Kind: kind, Text: text}, api.OK
}

// first returns the symbol with which a text begins that is not a comment, and its length, or a fault. All strings end.
func (o oracle) first(s string) (x api.Symbol, length int, e api.Errno) {
	compact := func(s string) string { return strings.ToLower(without(s, "\t\n ")) }
	if m := o.bits.FindString(s); m != "" {
		if x, e = short(api.SymBits, compact(m), 100); e == api.OK && !anchored(bitsText).MatchString(x.Text) {
			e = api.ErrRange
		}
		return x, len(m), e
	}
	if m := o.real.FindString(s); m != "" {
		x, e = short(api.SymReal, compact(m), 100)
		return x, len(m), e
	}
	if m := o.digits.FindString(s); m != "" {
		x, e = short(api.SymInt, compact(m), 100)
		return x, len(m), e
	}
	if m := o.tag.FindString(s); m != "" {
		x, e = short(api.SymTag, compact(m), 40)
		return x, len(m), e
	}
	if m := o.bold.FindString(s); m != "" {
		x, e = short(api.SymBold, strings.ToUpper(strings.Trim(m, ".'")), 40)
		return x, len(m), e
	}
	if m := longestSign(s); m != "" {
		return api.Symbol{Kind: api.SymSign, Text: m}, len(m), api.OK
	}
	if _, e := wrongByte(s[:1], false); e != api.OK {
		return x, 0, e
	}
	return x, 0, api.ErrSyntax
}

// literal returns the string or format with which a text begins, and its length.
func (o oracle) literal(s string) (x api.Symbol, all string, ended bool) {
	m, kind := o.quotation.FindStringSubmatch(s), api.SymString
	if s[0] == '$' {
		m, kind = o.format.FindStringSubmatch(s), api.SymFormat
	}
	if ended = m[1] == `"` || m[1] == "$"; ended {
		x.Kind, x.Text = kind, m[0][1:len(m[0])-1]
		if kind == api.SymString {
			x.Text = strings.ReplaceAll(x.Text, `""`, `"`)
		}
	}
	return x, m[0], ended
}

// wantSymbols returns what Symbols should return for a text and a regime that there is.
func wantSymbols(os []oracle, text string, regime int) (l []api.Symbol, f api.Fault) {
	for at := 0; ; {
		o := os[regime]
		at += len(o.blanks.FindString(text[at:]))
		if at == len(text) {
			return append(l, api.Symbol{Kind: api.SymEnd, At: at}), f
		}
		rest, length := text[at:], 0
		word := strings.ToUpper(strings.Trim(o.bold.FindString(rest), ".'"))
		switch {
		case rest[0] == '#':
			m := o.comment.FindStringSubmatch(rest)
			f, length = enclosed(at, m[0], false, m[1] == "#"), len(m[0])
		case word == "CO" || word == "COMMENT" || word == "PR" || word == "PRAGMAT":
			all, inner, ended := o.remark(rest, o.bold.FindString(rest))
			f, length = enclosed(at, all, false, ended), len(all)
			for i, name := range []string{"upper", "point", "quote"} {
				if word[0] == 'P' && strings.EqualFold(strings.TrimSpace(inner), name) {
					regime = i
				}
			}
		case rest[0] == '"' || rest[0] == '$':
			x, all, ended := o.literal(rest)
			f, length = enclosed(at, all, true, ended), len(all)
			x.At = at
			l = append(l, x)
		default:
			x, n, e := o.first(rest)
			if e != api.OK {
				f = fault(at, e)
			}
			x.At, length = at, n
			l = append(l, x)
		}
		if f.Code != api.OK {
			return nil, f
		}
		at += length
	}
}

// The texts of kinds of symbols, but for their lengths.
const (
	boldText = `[A-Z][A-Z0-9]*`
	tagText  = `[a-z][a-z0-9]*`
	intText  = `[0-9]+`
	realText = `([0-9]+)?\.[0-9]+(e[+-]?[0-9]+)?|[0-9]+e[+-]?[0-9]+`
	bitsText = `2r[01]+|4r[0-3]+|8r[0-7]+|16r[0-9a-f]+`
)

func anchored(p string) *regexp.Regexp { return regexp.MustCompile(`\A(?:` + p + `)\z`) }

// wantCheck returns whether a text is one of a kind.
func wantCheck(kind int, text string) bool {
	_, e := wrongByte(text, true)
	switch kind {
	case api.SymEnd:
		return text == ""
	case api.SymBold:
		return anchored(boldText).MatchString(text) && len(text) <= 40 && !anchored("CO|COMMENT|PR|PRAGMAT").MatchString(text)
	case api.SymTag:
		return anchored(tagText).MatchString(text) && len(text) <= 40
	case api.SymInt:
		return anchored(intText).MatchString(text) && letters(text) <= 100
	case api.SymReal:
		return anchored(realText).MatchString(text) && letters(text) <= 100
	case api.SymBits:
		return anchored(bitsText).MatchString(text) && letters(text) <= 100
	case api.SymString:
		return e == api.OK && len(text)+strings.Count(text, `"`) <= 65534
	case api.SymFormat:
		return e == api.OK && len(text) <= 65534 && anchored(`([^"$]|"[^"]*")*`).MatchString(text)
	}
	return text != "" && longestSign(text) == text
}

// expectSymbols fails the test unless Symbols of a text is what the oracle says.
func expectSymbols(t *testing.T, os []oracle, text string, regime int) {
	t.Helper()
	want, wantFault := wantSymbols(os, text, regime)
	l, f := strop.Symbols(text, regime)
	if f != wantFault || !equal(l, want) {
		t.Errorf("Symbols(%q, %d) is %s %d, not %s %d", head(text), regime, show(l), f, show(want), wantFault)
	}
}

// P4.1, against the oracle: all short texts of letters that can be put together in several ways.
func TestShortTexts(t *testing.T) {
	os := oracles()
	for _, x := range []struct {
		letters string
		n       int
	}{
		{"1 .er+", 6}, {"216raE #", 5}, {"a1A .'\n", 5}, {":/=+*%|-<>", 4}, {"\"$a\n\x01'", 5}, {"#aCO .'\"", 5},
	} {
		every(x.letters, "", x.n, func(s string) {
			for regime := range os {
				expectSymbols(t, os, s, regime)
			}
		})
	}
}

// pieces returns texts that stand side by side in a text of a regime.
func pieces(regime int) []string {
	l := []string{
		" ", " ", "\n", "\t", "", "", "a", "b1", "my tag", "X", "Y2", "1", "20", "1 0", ".", ".5", " . 5", "e", " e 3", "e+", "e - 7", "r", "2r", "16r f 0", "8 r 7", "16", "3r1", "4r4", "f",
		"\"", "\"a\"", "\"\"\"\"", "\"$\"", "$", "$a$", "$ \"$\" $", "$\"", "#", "##", "# x #", "'", "''", "\x01", "\x7f", "\xe9", "\r", "!", "?", "_",
		"upper", "Point", "QUOTE", " point ", "\tQuote\n",
	}
	l = append(l, strings.Fields(signList)...)
	for _, w := range strings.Fields("co CO comment pr PR PRAGMAT if Begin") {
		l = append(l, bold(w, regime), bold(w, regime)+" ", bold(strings.ToUpper(w), strop.Upper))
	}
	return l
}

// P4.1, against the oracle: texts put together at random.
func TestTextsOfPieces(t *testing.T) {
	os, random := oracles(), source()
	for regime := range os {
		l := pieces(regime)
		for range 60000 {
			s := ""
			for range 1 + random.IntN(9) {
				s += l[random.IntN(len(l))]
			}
			expectSymbols(t, os, s, regime)
		}
	}
}

// P4.1, against the oracle: comments and pragmats that hold all sorts of things, and what stands behind them.
func TestRemarksOfPieces(t *testing.T) {
	os, random := oracles(), source()
	for regime := range os {
		l := pieces(regime)
		for range 30000 {
			word := bold(strings.Fields("CO COMMENT PR PRAGMAT")[random.IntN(4)], regime)
			s := word
			for range random.IntN(4) {
				s += l[random.IntN(len(l))]
			}
			s += word
			for range random.IntN(3) {
				s += l[random.IntN(len(l))]
			}
			expectSymbols(t, os, s, regime)
		}
	}
}

// P4.3, against the oracle: all short texts, and those of symbols, with each kind.
func TestShortChecks(t *testing.T) {
	expect := func(s string) {
		for kind := api.SymEnd; kind <= api.SymSign; kind++ {
			want := api.ErrForm
			if wantCheck(kind, s) {
				want = api.OK
			}
			if e := strop.Check(api.Symbol{Kind: kind, Text: s, At: -len(s)}); e != want {
				t.Errorf("Check of the kind %d and %q is %d, not %d", kind, head(s), int(e), int(want))
			}
		}
	}
	for _, letters := range []string{"1.e+ ", "2168raA", "\"$a #", ":/=%*+", "CPORa1"} {
		every(letters, "", 4, expect)
	}
	for _, regime := range []int{strop.Upper, strop.Point, strop.Quote} {
		for _, s := range pieces(regime) {
			expect(s)
		}
	}
}
