package strop_test

import (
	"math"
	"strings"
	"testing"

	"environ/api"
	"environ/strop"
)

func sym(kind int, text string) api.Symbol { return api.Symbol{Kind: kind, Text: text} }

// times returns a list with a symbol n times.
func times(n int, x api.Symbol) []api.Symbol {
	l := make([]api.Symbol, n)
	for i := range l {
		l[i] = x
	}
	return l
}

// invalid are symbols that Symbols never returns, with their errors.
func invalid() []struct {
	x api.Symbol
	e api.Errno
} {
	return []struct {
		x api.Symbol
		e api.Errno
	}{
		{sym(-1, "a"), api.ErrKind}, {sym(9, ""), api.ErrKind}, {sym(math.MinInt, ""), api.ErrKind}, {sym(math.MaxInt, "1"), api.ErrKind},
		{sym(api.SymEnd, " "), api.ErrForm}, {sym(api.SymEnd, "x"), api.ErrForm}, {sym(api.SymEnd, "# #"), api.ErrForm}, {sym(api.SymEnd, "\x01"), api.ErrForm},
		{sym(api.SymBold, ""), api.ErrForm}, {sym(api.SymTag, ""), api.ErrForm}, {sym(api.SymInt, ""), api.ErrForm}, {sym(api.SymReal, ""), api.ErrForm}, {sym(api.SymBits, ""), api.ErrForm}, {sym(api.SymSign, ""), api.ErrForm},
		{sym(api.SymBold, "if"), api.ErrForm}, {sym(api.SymBold, "CO"), api.ErrForm}, {sym(api.SymBold, "PRAGMAT"), api.ErrForm}, {sym(api.SymBold, many(41, "A")), api.ErrForm},
		{sym(api.SymTag, "a b"), api.ErrForm}, {sym(api.SymTag, "A"), api.ErrForm}, {sym(api.SymTag, "1a"), api.ErrForm}, {sym(api.SymTag, many(41, "a")), api.ErrForm},
		{sym(api.SymInt, "-1"), api.ErrForm}, {sym(api.SymInt, many(101, "1")), api.ErrForm}, {sym(api.SymReal, "1.e5"), api.ErrForm}, {sym(api.SymReal, "15"), api.ErrForm}, {sym(api.SymBits, "16rAF"), api.ErrForm}, {sym(api.SymBits, "3r1"), api.ErrForm},
		{sym(api.SymString, "a\n"), api.ErrForm}, {sym(api.SymString, many(65535, "a")), api.ErrForm}, {sym(api.SymFormat, "$"), api.ErrForm}, {sym(api.SymFormat, "\""), api.ErrForm}, {sym(api.SymSign, "?"), api.ErrForm}, {sym(api.SymSign, ": ="), api.ErrForm},
	}
}

// P4.2: each kind as it is written in each regime.
func TestText(t *testing.T) {
	l := []api.Symbol{sym(api.SymBold, "IF2"), sym(api.SymTag, "a1"), sym(api.SymInt, "007"), sym(api.SymReal, "1.5e+3"), sym(api.SymBits, "16rff"), sym(api.SymString, ""), sym(api.SymString, "A\"b"), sym(api.SymFormat, "x\"$\""), sym(api.SymFormat, ""), sym(api.SymSign, ":"), sym(api.SymSign, "="), sym(api.SymBold, "E"), sym(api.SymBold, "FI"), sym(api.SymTag, "e")}
	for regime, want := range []string{
		`IF2 a1 ## 007 ## 1.5e+3 ## 16rff "" "A""b" $x"$"$ $$ : = E FI e`,
		`.if2 a1 ## 007 ## 1.5e+3 ## 16rff "" "A""b" $x"$"$ $$ : = .e .fi e`,
		`'if2' a1 ## 007 ## 1.5e+3 ## 16rff "" "A""b" $x"$"$ $$ : = 'e' 'fi' e`,
	} {
		if s, e := strop.Text(l, regime); s != want || e != api.OK {
			t.Errorf("Text in %d is %q %d, not %q", regime, s, int(e), want)
		}
	}
}

// P4.2: a blank stands between two symbols, ## with blanks between tags and numbers.
func TestBetween(t *testing.T) {
	open := []api.Symbol{sym(api.SymTag, "a"), sym(api.SymInt, "1"), sym(api.SymReal, ".5"), sym(api.SymBits, "2r1")}
	all := append(open[:4:4], sym(api.SymBold, "A"), sym(api.SymString, "a"), sym(api.SymFormat, "a"), sym(api.SymSign, "("))
	for i, a := range all {
		for k, b := range all {
			first, _ := strop.Text([]api.Symbol{a}, strop.Upper)
			second, _ := strop.Text([]api.Symbol{b}, strop.Upper)
			want := first + " " + second
			if i < len(open) && k < len(open) {
				want = first + " ## " + second
			}
			if s, e := strop.Text([]api.Symbol{a, b}, strop.Upper); s != want || e != api.OK {
				t.Errorf("Text is %q %d, not %q", s, int(e), want)
			}
		}
	}
}

// P4.2: the list ends at its first SymEnd, if it has one.
func TestTextEnds(t *testing.T) {
	a, end := sym(api.SymTag, "a"), sym(api.SymEnd, "")
	for _, regime := range regimes {
		for _, c := range []struct {
			l    []api.Symbol
			want string
		}{
			{nil, ""}, {[]api.Symbol{}, ""}, {[]api.Symbol{end}, ""}, {[]api.Symbol{a}, "a"}, {[]api.Symbol{a, end}, "a"}, {[]api.Symbol{a, end, a}, "a"}, {[]api.Symbol{end, a}, ""}, {[]api.Symbol{a, a, end, end, a}, "a ## a"}, {[]api.Symbol{a, end, sym(9, "")}, "a"}, {append([]api.Symbol{a, end}, times(40000, a)...), "a"},
			{[]api.Symbol{{Kind: api.SymTag, Text: "a", At: -7}, {Kind: api.SymEnd, At: 99}}, "a"},
		} {
			if s, e := strop.Text(c.l, regime); s != c.want || e != api.OK {
				t.Errorf("Text of %s is %q %d, not %q", head(show(c.l)), s, int(e), c.want)
			}
		}
	}
}

// P4.2: the errors in their order.
func TestTextErrors(t *testing.T) {
	a := sym(api.SymTag, "a")
	expect := func(l []api.Symbol, regime int, want api.Errno) {
		t.Helper()
		if s, e := strop.Text(l, regime); s != "" || e != want {
			t.Errorf("Text of %s in %d is %q %d, not %d", head(show(l)), regime, head(s), int(e), int(want))
		}
	}
	for _, regime := range badRegimes {
		expect(nil, regime, api.ErrArg)
		expect([]api.Symbol{a}, regime, api.ErrArg)
		expect([]api.Symbol{sym(9, "")}, regime, api.ErrArg)
		expect(times(65537, a), regime, api.ErrArg)
	}
	for _, regime := range regimes {
		for _, x := range invalid() {
			expect([]api.Symbol{x.x}, regime, x.e)
			expect([]api.Symbol{a, x.x, sym(-1, ""), sym(api.SymTag, "")}, regime, x.e)
			expect([]api.Symbol{a, x.x, sym(api.SymTag, ""), sym(-1, "")}, regime, x.e)
			expect(append(times(20000, a), x.x), regime, x.e)
		}
	}
}

// P4.2: texts of 65536 bytes, and those that would be too long.
func TestTextLimit(t *testing.T) {
	for _, regime := range regimes {
		for _, c := range []struct {
			x    api.Symbol
			each int // bytes of a symbol, and what stands behind it
			less int // bytes that do not stand behind the last one
		}{
			{sym(api.SymSign, "("), 2, 1}, {sym(api.SymBold, "A"), []int{2, 3, 4}[regime], 1}, {sym(api.SymTag, "a"), 5, 4}, {sym(api.SymReal, "1.5"), 7, 4}, {sym(api.SymString, "\""), 5, 1}, {sym(api.SymFormat, ""), 3, 1},
		} {
			n := (65536 + c.less) / c.each
			s, e := strop.Text(times(n, c.x), regime)
			if len(s) != n*c.each-c.less || e != api.OK {
				t.Errorf("Text of %d %q in %d has %d bytes, error %d", n, c.x.Text, regime, len(s), int(e))
			}
			for _, more := range []int{n + 1, 2 * n, 100000} {
				if s, e := strop.Text(times(more, c.x), regime); s != "" || e != api.ErrLimit {
					t.Errorf("Text of %d %q in %d has %d bytes, error %d", more, c.x.Text, regime, len(s), int(e))
				}
			}
		}
		for _, x := range []api.Symbol{sym(api.SymString, many(65534, "x")), sym(api.SymString, many(32767, "\"")), sym(api.SymFormat, many(65534, "\""))} {
			if s, e := strop.Text([]api.Symbol{x, sym(api.SymEnd, "")}, regime); len(s) != 65536 || e != api.OK {
				t.Errorf("Text of a long symbol has %d bytes, error %d", len(s), int(e))
			}
			if s, e := strop.Text([]api.Symbol{x, sym(api.SymSign, "(")}, regime); s != "" || e != api.ErrLimit {
				t.Errorf("Text of a long symbol and a sign has %d bytes, error %d", len(s), int(e))
			}
		}
	}
	exact := append(times(32767, sym(api.SymSign, "(")), sym(api.SymSign, ":="))
	if s, e := strop.Text(exact, strop.Upper); len(s) != 65536 || e != api.OK {
		t.Error(len(s), int(e))
	}
	exact[0].Text = ":="
	if s, e := strop.Text(exact, strop.Upper); s != "" || e != api.ErrLimit {
		t.Error(len(s), int(e))
	}
}

// P4.3: each kind, with texts that it has and texts that it does not have.
func TestCheck(t *testing.T) {
	for _, c := range []struct {
		kind      int
		good, bad []string
	}{
		{api.SymEnd, []string{""}, []string{" ", "a", "\n", "##", "\x00"}},
		{api.SymBold, []string{"A", "IF", "A1B2", "COX", "C", "P", "PRA", "COMMENTS", "E5", many(40, "Z")},
			[]string{"", "a", "Ab", "1A", "A B", " A", "A ", ".A", "'A'", ".if", "CO", "COMMENT", "PR", "PRAGMAT", "CO CO", "A_B", "A\x01", "A##", "É", "+", many(41, "Z"), many(70000, "Z")}},
		{api.SymTag, []string{"a", "abc", "a1b2", "co", "pr", "e5", "r1", many(40, "z")},
			[]string{"", "A", "aB", "1a", "a b", " a", "a ", "a\n", "a_b", "a.b", "a##", "'a'", "é", "\x01", "(", many(41, "z"), many(70000, "z")}},
		{api.SymInt, []string{"0", "7", "007", many(100, "9")},
			[]string{"", "+1", "-1", "1 2", " 1", "1 ", "1.", "1e", "1e5", "1.5", "2r1", "a", "1a", "1,", "1\x01", "1##", many(101, "9"), many(70000, "9")}},
		{api.SymReal, []string{"1.5", ".5", "00.00", "1e5", "1e+5", "1e-05", "1.5e5", ".5e-5", many(99, "1") + ".1", "." + many(100, "1"), "1.1e+" + many(97, "1")},
			[]string{"", "1", "5.", "1.e5", ".e5", "1e", "1e+", "1e+-5", "1E5", "e5", "1 .5", "1. 5", "1e 5", "+1.5", "1.5.5", "1.5e5e5", "1.5e5.5", "1.5a", "2r1", ".", "1e5 ", "1e5##", many(100, "1") + ".1", "." + many(101, "1"), "1.1e+" + many(98, "1")}},
		{api.SymBits, []string{"2r0", "2r01", "4r0123", "8r01234567", "16r0123456789abcdef", "16read", "16r1e5", "2r" + many(98, "1"), "16r" + many(97, "f")},
			[]string{"", "2r", "2", "r1", "1r0", "3r1", "10r1", "32r1", "02r1", "2r2", "4r4", "8r8", "16rg", "2ra", "16rA", "2R1", "2r 1", "2 r1", "2r1 ", "2r1.5", "2r1g", "2r-1", "2r1r1", "2r" + many(99, "1"), "16r" + many(98, "f")}},
		{api.SymString, []string{"", "a", " ", "\"", "\"\"", "a\"b\"\"", "CO # $ '", "~", many(65534, "x"), many(32767, "\""), many(65532, "x") + "\""},
			[]string{"\n", "\t", "a\x01", "\x7f", "\x1f", "\xe9", "é", many(65535, "x"), many(32768, "\""), many(65533, "x") + "\"", many(100000, "x")}},
		{api.SymFormat, []string{"", "a", " ", "\"\"", "\"$\"", "a\"$$\"\"$\"b", "\"a\"\"b\"", "# CO '", "~", many(65534, "x"), many(65534, "\"")},
			[]string{"$", "a$", "$a", "a$$b", "a$ $b", "\"", "a\"", "\"\"\"", "\"$", "\"\"$", "\"$\"$", "\n", "\"\t\"", "a\x01", "\x7f", "\xe9", many(65535, "x"), many(65536, "\""), many(65533, "\"") + "x"}},
		{api.SymSign, strings.Fields(signList),
			[]string{"", "?", "!", ".", "'", "\"", "#", "##", "$", "$$", "_", "\\", ":/=", "+=", "<>", "==", "()", ": =", " :", ": ", ":=:=", "a", "1", "IF", "\n", "\x01", ":##", "//:=", "%*:=:"}},
	} {
		for _, at := range []int{0, 1, -1, math.MinInt, math.MaxInt} {
			for _, s := range c.good {
				if e := strop.Check(api.Symbol{Kind: c.kind, Text: s, At: at}); e != api.OK {
					t.Errorf("Check of the kind %d and %q is %d", c.kind, head(s), int(e))
				}
			}
			for _, s := range c.bad {
				if e := strop.Check(api.Symbol{Kind: c.kind, Text: s, At: at}); e != api.ErrForm {
					t.Errorf("Check of the kind %d and %q is %d", c.kind, head(s), int(e))
				}
			}
		}
	}
}

// P4.3: kinds that there are not, and other symbols that Symbols never returns.
func TestCheckErrors(t *testing.T) {
	for _, x := range invalid() {
		if e := strop.Check(x.x); e != x.e {
			t.Errorf("Check of %d %q is %d, not %d", x.x.Kind, head(x.x.Text), int(e), int(x.e))
		}
	}
	for _, kind := range []int{-1, -2, 9, 10, 100, math.MinInt, math.MaxInt} {
		for _, s := range []string{"", "a", "A", "1", "(", "\x01", many(100000, "a")} {
			if e := strop.Check(sym(kind, s)); e != api.ErrKind {
				t.Errorf("Check of %d %q is %d", kind, head(s), int(e))
			}
		}
	}
}
