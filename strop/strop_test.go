package strop_test

import (
	"math"
	"math/rand/v2"
	"strconv"
	"strings"
	"testing"

	"environ/api"
	"environ/strop"
)

var regimes = []int{strop.Upper, strop.Point, strop.Quote}

var badRegimes = []int{-1, 3, 4, -100, math.MinInt, math.MaxInt}

// many returns a text n times.
func many(n int, s string) string { return strings.Repeat(s, n) }

// head returns the beginning of a text that may be too long to be shown.
func head(s string) string {
	if len(s) > 100 {
		return s[:100] + ".."
	}
	return s
}

// source gives numbers that look like random ones, the same ones in each run.
func source() *rand.Rand { return rand.New(rand.NewPCG(4, 1968)) }

// every calls see with a text, and with all texts of at most n letters more behind it.
func every(letters, s string, n int, see func(s string)) {
	see(s)
	if n == 0 {
		return
	}
	for i := range len(letters) {
		every(letters, s+letters[i:i+1], n-1, see)
	}
}

// bold returns a word as a bold word of a regime.
func bold(word string, regime int) string {
	return []string{strings.ToUpper(word), "." + word, "'" + word + "'"}[regime]
}

// show returns symbols as one text: kinds, texts and places.
func show(l []api.Symbol) string {
	s := ""
	for _, x := range l {
		s += letterOf(x.Kind) + head(x.Text) + "@" + strconv.Itoa(x.At) + " "
	}
	return strings.TrimSuffix(s, " ")
}

// letterOf returns a letter for a kind of symbols.
func letterOf(kind int) string {
	if kind < 0 || kind > api.SymSign {
		return "?"
	}
	return "EBtirbsf+"[kind : kind+1]
}

// texts returns symbols as one text, without their places and the end.
func texts(l []api.Symbol) string {
	s := ""
	for _, x := range l {
		if x.Kind != api.SymEnd {
			s += letterOf(x.Kind) + x.Text + "|"
		}
	}
	return s
}

func equal(a, b []api.Symbol) bool {
	if len(a) != len(b) {
		return false
	}
	for i := range a {
		if a[i] != b[i] {
			return false
		}
	}
	return true
}

// textCase is a text with its symbols, or a fault.
type textCase struct {
	regime int
	text   string
	want   string
	f      api.Fault
}

func testTexts(t *testing.T, cases []textCase) {
	t.Helper()
	for _, c := range cases {
		l, f := strop.Symbols(c.text, c.regime)
		if texts(l) != c.want || f != c.f {
			t.Errorf("Symbols(%q, %d) is %s %d, not %s %d", head(c.text), c.regime, head(texts(l)), f, head(c.want), c.f)
		}
	}
}

func ok(regime int, text, want string) textCase { return textCase{regime, text, want, api.Fault{}} }

func bad(regime int, text string, at int, e api.Errno) textCase {
	return textCase{regime, text, "", api.Fault{At: at, Code: e}}
}

// P4.1: places, and the end.
func TestPlaces(t *testing.T) {
	for _, c := range []struct {
		regime     int
		text, want string
	}{
		{0, "", "E@0"}, {1, " \n\t", "E@3"}, {2, "# #", "E@3"}, {0, "\na", "ta@1 E@2"},
		{0, " BEGIN x  y:=16r f; \"a\"\"b\" END # x # ", "BBEGIN@1 txy@7 +:=@11 b16rf@13 +;@18 sa\"b@20 BEND@27 E@37"},
		{1, ".begin .5 .end", "BBEGIN@0 r.5@7 BEND@10 E@14"},
		{2, "'BEGIN'a 'OF'b$x$", "BBEGIN@0 ta@7 BOF@9 tb@13 fx@14 E@17"},
		{0, "1 CO z CO 2.5 e + 3 e", "i1@0 r2.5e+3@10 te@20 E@21"},
	} {
		if l, f := strop.Symbols(c.text, c.regime); show(l) != c.want || f != (api.Fault{}) {
			t.Errorf("Symbols(%q, %d) is %s %d, not %s", c.text, c.regime, show(l), f, c.want)
		}
	}
}

// P4.1: arguments, before anything else.
func TestSymbolsArguments(t *testing.T) {
	for _, regime := range badRegimes {
		testTexts(t, []textCase{bad(regime, "", 0, api.ErrArg), bad(regime, "a", 0, api.ErrArg), bad(regime, "a \x01", 0, api.ErrArg), bad(regime, many(65537, " "), 0, api.ErrArg)})
	}
	for _, regime := range regimes {
		testTexts(t, []textCase{
			ok(regime, many(65536, " "), ""), ok(regime, many(65535, " ")+"a", "ta|"), ok(regime, many(32768, "##"), ""),
			ok(regime, `"`+many(65534, "x")+`"`, "s"+many(65534, "x")+"|"), ok(regime, "$"+many(65534, "x")+"$", "f"+many(65534, "x")+"|"),
			bad(regime, many(65537, " "), 0, api.ErrLimit), bad(regime, many(65536, " ")+"a", 0, api.ErrLimit),
			bad(regime, "  \x01"+many(65536, " "), 0, api.ErrLimit), bad(regime, many(1<<20, "\xff"), 0, api.ErrLimit),
			bad(regime, many(65535, " ")+"\x01", 65535, api.ErrForm), bad(regime, `"`+many(65535, "x"), 0, api.ErrEnd),
		})
	}
}

// P4.1: bytes that no text has, wherever they stand.
func TestWrongBytes(t *testing.T) {
	for c := range 256 {
		if c == 9 || c == 10 || 32 <= c && c <= 126 {
			continue
		}
		b := string([]byte{byte(c)})
		for _, regime := range regimes {
			co, pr := bold("co", regime), bold("pr", regime)
			for _, s := range []string{"", " ", "\n\t", "a", "a b ", "1", "1.", "1.5 ", "1e", "1e+", "2r", "(", ":/", "\"a", "\"a\"\"", "$a", "$\"$", "#", "# x", co, co + " x", pr, pr + " point", bold("if", regime)} {
				at := len(s)
				switch s {
				case "1.":
					at = 1
					testTexts(t, []textCase{bad(regime, s+b, at, api.ErrSyntax)})
				case co, pr, bold("if", regime):
					testTexts(t, []textCase{bad(regime, s+b+s, at, api.ErrForm), bad(regime, s+" "+b, at+1, api.ErrForm)})
				default:
					testTexts(t, []textCase{bad(regime, s+b, at, api.ErrForm), bad(regime, s+b+"\n"+s, at, api.ErrForm)})
				}
			}
		}
	}
	testTexts(t, []textCase{bad(2, "'if\x01'", 0, api.ErrSyntax), bad(1, ".\x01", 0, api.ErrSyntax), bad(0, "\x01 !", 0, api.ErrForm), bad(0, "! \x01", 0, api.ErrSyntax), bad(0, "é", 0, api.ErrForm), bad(0, "a\r\n", 1, api.ErrForm)})
}

// P4.1: bytes with which no symbol begins.
func TestWrongBeginnings(t *testing.T) {
	for _, regime := range regimes {
		for _, c := range strings.Split("! ? \\ _ ` { } .", " ") {
			testTexts(t, []textCase{bad(regime, c, 0, api.ErrSyntax), bad(regime, "a "+c+" b", 2, api.ErrSyntax), bad(regime, "(1"+c, 2, api.ErrSyntax)})
		}
		testTexts(t, []textCase{bad(regime, "..a", 0, api.ErrSyntax), bad(regime, ". 5", 0, api.ErrSyntax), bad(regime, "1. 5", 1, api.ErrSyntax), bad(regime, "1 . 5", 2, api.ErrSyntax), bad(regime, ".#a#5", 0, api.ErrSyntax), bad(regime, "'", 0, api.ErrSyntax), bad(regime, "a'1'", 1, api.ErrSyntax)})
	}
	testTexts(t, []textCase{
		bad(0, "'if'", 0, api.ErrSyntax), bad(0, ".if", 0, api.ErrSyntax), bad(0, "IF.if", 2, api.ErrSyntax), bad(1, "'if'", 0, api.ErrSyntax),
		bad(1, "a .if'", 5, api.ErrSyntax), bad(1, ". if", 0, api.ErrSyntax), bad(1, "._", 0, api.ErrSyntax), bad(2, ".if", 0, api.ErrSyntax),
		bad(2, "1.e5", 1, api.ErrSyntax),
		bad(2, "''", 0, api.ErrSyntax), bad(2, "'if", 0, api.ErrSyntax), bad(2, "'if 'fi'", 0, api.ErrSyntax), bad(2, "' if'", 0, api.ErrSyntax),
		bad(2, "'if '", 0, api.ErrSyntax), bad(2, "'i f'", 0, api.ErrSyntax), bad(2, "'1f'", 0, api.ErrSyntax), bad(2, "'if'fi'", 6, api.ErrSyntax),
		bad(2, "a '", 2, api.ErrSyntax), bad(2, "'"+many(100, "a"), 0, api.ErrSyntax), bad(2, "'"+many(100, "a")+" '", 0, api.ErrSyntax),
	})
}

// P4.1: bold words.
func TestBoldWords(t *testing.T) {
	long := "A" + many(39, "9")
	testTexts(t, []textCase{
		ok(0, "IF", "BIF|"), ok(0, "IF1", "BIF1|"), ok(0, "IF 1", "BIF|i1|"), ok(0, "I F", "BI|BF|"), ok(0, "IFa", "BIF|ta|"), ok(0, "aIF", "ta|BIF|"),
		ok(0, "1IF", "i1|BIF|"), ok(0, "aB1 a 1", "ta|BB1|ta1|"), ok(0, "A1b2C", "BA1|tb2|BC|"), ok(0, "E5", "BE5|"),
		ok(0, "COX COMMENT1 PRA", "BCOX|BCOMMENT1|BPRA|"), ok(0, "IF(A)", "BIF|+(|BA|+)|"),
		ok(1, ".if", "BIF|"), ok(1, ".If.fI", "BIF|BFI|"), ok(1, ".if1x", "BIF1X|"), ok(1, ".if 1", "BIF|i1|"), ok(1, "a.if", "ta|BIF|"),
		ok(1, "a .b c", "ta|BB|tc|"), ok(1, "1.x", "i1|BX|"), ok(1, "1.e5", "i1|BE5|"), ok(1, "1.5.e5", "r1.5|BE5|"), ok(1, ".e.5", "BE|r.5|"),
		ok(1, "IF.IF", "tif|BIF|"), ok(1, ".cox", "BCOX|"),
		ok(2, "'if'", "BIF|"), ok(2, "'If''fI'", "BIF|BFI|"), ok(2, "'if1x'", "BIF1X|"), ok(2, "'if'1", "BIF|i1|"), ok(2, "a'if'b", "ta|BIF|tb|"),
		ok(2, "1'e5'", "i1|BE5|"), ok(2, "IF'IF'", "tif|BIF|"), ok(2, "'cox'", "BCOX|"), ok(2, "'a'b'c'", "BA|tb|BC|"),
		ok(0, long, "B"+long+"|"), ok(1, "."+long, "B"+long+"|"), ok(2, "'"+long+"'", "B"+long+"|"),
		bad(0, long+"9", 0, api.ErrLimit), bad(0, "a "+long+"A b", 2, api.ErrLimit), bad(1, "a."+long+"a", 1, api.ErrLimit),
		bad(2, " '"+long+"9'", 1, api.ErrLimit), bad(2, "'"+many(60000, "x")+"'", 0, api.ErrLimit), bad(0, many(60000, "CO"), 0, api.ErrLimit),
		ok(0, many(40, "A")+"b", "B"+many(40, "A")+"|tb|"),
	})
}

// P4.1: tags.
func TestTags(t *testing.T) {
	letters := "abcdefghijklmnopqrstuvwxyz0123456789abcd"
	capitals := strings.ToUpper(letters)
	for _, regime := range regimes {
		testTexts(t, []textCase{
			ok(regime, "a", "ta|"), ok(regime, "abc9", "tabc9|"), ok(regime, "a b\n1\t 2  ", "tab12|"), ok(regime, "a 2r12", "ta2r12|"),
			ok(regime, "a 1.5", "ta1|r.5|"), ok(regime, "a e5", "tae5|"), ok(regime, "a##b", "ta|tb|"), ok(regime, "a # b # 1", "ta|i1|"),
			ok(regime, "a,b c", "ta|+,|tbc|"), ok(regime, "z9#1#9", "tz9|i9|"),
			ok(regime, letters, "t"+letters+"|"), ok(regime, strings.Join(strings.Split(letters, ""), " \n\t"), "t"+letters+"|"),
			bad(regime, letters+"0", 0, api.ErrLimit), bad(regime, " "+letters+" 0 0", 1, api.ErrLimit), bad(regime, "( "+many(41, "a\n"), 2, api.ErrLimit),
			bad(regime, many(60000, "a"), 0, api.ErrLimit), bad(regime, letters+"0\x01", 0, api.ErrLimit), bad(regime, letters+"\x01", 40, api.ErrForm),
			ok(regime, letters+"##0", "t"+letters+"|i0|"),
		})
		if regime != strop.Upper {
			testTexts(t, []textCase{ok(regime, "My Tag", "tmytag|"), ok(regime, "A", "ta|"), ok(regime, capitals, "t"+letters+"|"), bad(regime, capitals+"0", 0, api.ErrLimit)})
		}
	}
	testTexts(t, []textCase{ok(0, "aB c", "ta|BB|tc|"), ok(0, "my TAG", "tmy|BTAG|")})
}

// P4.1: numbers in all regimes.
func TestNumbers(t *testing.T) {
	for _, regime := range regimes {
		testTexts(t, []textCase{
			ok(regime, "0", "i0|"), ok(regime, "007", "i007|"), ok(regime, "1 0\n0\t0 ", "i1000|"), ok(regime, "1##2", "i1|i2|"), ok(regime, "1,2", "i1|+,|i2|"),
			ok(regime, "1a", "i1|ta|"), ok(regime, "1 a", "i1|ta|"),
			ok(regime, "1.5", "r1.5|"), ok(regime, ".5", "r.5|"), ok(regime, "1 .5", "r1.5|"), ok(regime, "1 2\n.5 6 ", "r12.56|"),
			ok(regime, "1.5.5", "r1.5|r.5|"), ok(regime, "1.5 .5", "r1.5|r.5|"), ok(regime, ".5.5", "r.5|r.5|"), ok(regime, "1##.5", "i1|r.5|"),
			ok(regime, "00.00", "r00.00|"), ok(regime, "a.5", "ta|r.5|"),
			ok(regime, "1e5", "r1e5|"), ok(regime, "1e+5", "r1e+5|"), ok(regime, "1e-5", "r1e-5|"), ok(regime, "1 e 5", "r1e5|"),
			ok(regime, "1\ne\n-\n5\n6", "r1e-56|"), ok(regime, "1 .5 e + 0 7", "r1.5e+07|"), ok(regime, ".5e3", "r.5e3|"), ok(regime, "1e5e5", "r1e5|te5|"),
			ok(regime, "1e5.5", "r1e5|r.5|"), ok(regime, "1e5 6", "r1e56|"), ok(regime, "1 e 5 e", "r1e5|te|"), ok(regime, "1e5r3", "r1e5|tr3|"),
			ok(regime, "1e", "i1|te|"), ok(regime, "1 e x", "i1|tex|"), ok(regime, "1 else", "i1|telse|"), ok(regime, "1e+", "i1|te|++|"),
			ok(regime, "1e- x", "i1|te|+-|tx|"), ok(regime, "1e+-5", "i1|te|++|+-|i5|"), ok(regime, "1e+:=5", "i1|te|++:=|i5|"),
			ok(regime, "1e*5", "i1|te|+*|i5|"), ok(regime, "1e.5", "i1|te|r.5|"), ok(regime, "1.5e", "r1.5|te|"), ok(regime, "1.5e+a", "r1.5|te|++|ta|"),
			ok(regime, "1e##5", "i1|te|i5|"), ok(regime, "1##e5", "i1|te5|"), ok(regime, "1e+##5", "i1|te|++|i5|"), ok(regime, "1+5", "i1|++|i5|"),
			ok(regime, "1 d5", "i1|td5|"),
			ok(regime, "2r0 1", "b2r01|"), ok(regime, "4r0123", "b4r0123|"), ok(regime, "8 r 76543210", "b8r76543210|"),
			ok(regime, "16r0123456789abcdef", "b16r0123456789abcdef|"), ok(regime, "1 6\nr\tf 0;", "b16rf0|+;|"), ok(regime, "16r f for", "b16rff|tor|"),
			ok(regime, "16read", "b16read|"), ok(regime, "16r1e5", "b16r1e5|"), ok(regime, "16r1 e + 5", "b16r1e|++|i5|"), ok(regime, "2r1.5", "b2r1|r.5|"),
			ok(regime, "2r1r1", "b2r1|tr1|"), ok(regime, "2r1##a", "b2r1|ta|"), ok(regime, "16rag", "b16ra|tg|"),
			ok(regime, "2r", "i2|tr|"), ok(regime, "2 r x", "i2|trx|"), ok(regime, "2rg1", "i2|trg1|"), ok(regime, "2r##1", "i2|tr|i1|"),
			ok(regime, "2##r1", "i2|tr1|"), ok(regime, "2r.1", "i2|tr|r.1|"), ok(regime, "2r+1", "i2|tr|++|i1|"), ok(regime, "3r", "i3|tr|"),
			ok(regime, "5r g", "i5|trg|"), ok(regime, "1.5r1", "r1.5|tr1|"), ok(regime, ".5r1", "r.5|tr1|"), ok(regime, "1.2r1", "r1.2|tr1|"),
		})
	}
	testTexts(t, []textCase{
		ok(0, "1E5", "i1|BE5|"), ok(0, "5 e E", "i5|te|BE|"), ok(0, "16rF0", "i16|tr|BF0|"), ok(0, "16R1", "i16|BR1|"), ok(0, "16rfF", "b16rf|BF|"),
		ok(0, "2r1A", "b2r1|BA|"), ok(0, "1 000.5 E3", "r1000.5|BE3|"),
		ok(1, "1E5", "r1e5|"), ok(1, "1 E + 5", "r1e+5|"), ok(1, "16RF0", "b16rf0|"), ok(1, "16 R Ab", "b16rab|"), ok(1, "1E X", "i1|tex|"), ok(1, "16RG", "i16|trg|"),
		ok(2, "1E5", "r1e5|"), ok(2, "1 E - 5", "r1e-5|"), ok(2, "16RF0", "b16rf0|"), ok(2, "16 R Ab", "b16rab|"), ok(2, "1E X", "i1|tex|"),
		ok(2, "16RG", "i16|trg|"), ok(2, "1'E'5", "i1|BE|i5|"),
	})
}

// P4.1: numbers that are too long, and bits without their radix.
func TestNumberFaults(t *testing.T) {
	for _, regime := range regimes {
		for _, x := range []struct{ kind, text string }{
			{"i", many(100, "7")}, {"r", "1." + many(99, "2")}, {"r", "." + many(100, "5")}, {"r", many(97, "1") + ".5e-7"}, {"r", "1e+" + many(98, "0")}, {"b", "2r" + many(98, "1")}, {"b", "16r" + many(97, "a")},
		} {
			testTexts(t, []textCase{ok(regime, x.text, x.kind+x.text+"|"), ok(regime, x.text+"##1", x.kind+x.text+"|i1|"), bad(regime, x.text+"0", 0, api.ErrLimit), bad(regime, "a: "+x.text+" 0 ", 3, api.ErrLimit)})
			if wide := strings.Join(strings.Split(x.text, ""), " "); !strings.Contains(x.text, ".") {
				testTexts(t, []textCase{ok(regime, wide, x.kind+x.text+"|"), bad(regime, wide+" 1", 0, api.ErrLimit)})
			}
		}
		for _, s := range []string{"0r0", "1r0", "3r1", "5r1", "6r0", "7r1", "9r1", "10r1", "12r1", "15ra", "17r1", "32r1", "02r1", "002r1", "016r1", "20r1", "2r2", "2r12", "2r1f", "2ra", "4r4", "4r1234", "8r8", "8r79", "8ra", "2r1 a", "2r1 end", "2 real", "2r1 2", "8r7 do", "1 2r0", "22r1", "162r1", "3r" + many(98, "1")} {
			testTexts(t, []textCase{bad(regime, s, 0, api.ErrRange), bad(regime, "x; "+s+" \x01", 3, api.ErrRange)})
		}
		testTexts(t, []textCase{bad(regime, "3r"+many(99, "1"), 0, api.ErrLimit), bad(regime, "2r"+many(99, "2"), 0, api.ErrLimit), bad(regime, many(60000, "1 "), 0, api.ErrLimit)})
	}
	testTexts(t, []textCase{bad(1, "2RA", 0, api.ErrRange), bad(2, "8r7 Do", 0, api.ErrRange), ok(0, "8r7 DO", "b8r7|BDO|")})
}

// P4.1: strings.
func TestStrings(t *testing.T) {
	printed := ""
	for c := byte(32); c <= 126; c++ {
		if c != '"' {
			printed += string(c)
		}
	}
	for _, regime := range regimes {
		testTexts(t, []textCase{
			ok(regime, `""`, "s|"), ok(regime, `"a b"`, "sa b|"), ok(regime, `"A""b"`, `sA"b|`), ok(regime, `""""`, `s"|`), ok(regime, `""""""`, `s""|`),
			ok(regime, `"a""" "b"`, `sa"|sb|`), ok(regime, `"a" "b"`, "sa|sb|"), ok(regime, `"#CO'co'.co$"`, "s#CO'co'.co$|"),
			ok(regime, `"`+printed+`"`, "s"+printed+"|"), ok(regime, `a"b"c`, "ta|sb|tc|"), ok(regime, `""##""`, "s|s|"),
			bad(regime, `"`, 0, api.ErrEnd), bad(regime, ` "a`, 1, api.ErrEnd), bad(regime, `"a""`, 0, api.ErrEnd), bad(regime, `"""`, 0, api.ErrEnd),
			bad(regime, `"a" "`, 4, api.ErrEnd), bad(regime, `"a"" b`, 0, api.ErrEnd), bad(regime, `x "a`, 2, api.ErrEnd),
			bad(regime, "\"a\nb\"", 2, api.ErrSyntax), bad(regime, "\"\t\"", 1, api.ErrSyntax), bad(regime, "\"a\"\"\n", 4, api.ErrSyntax),
			bad(regime, "\"a\nb", 2, api.ErrSyntax), bad(regime, "\"a\t\n\x01", 2, api.ErrSyntax), bad(regime, "\"a\x01\n\"", 2, api.ErrForm),
			bad(regime, "\"a\x7f", 2, api.ErrForm), bad(regime, "\"a\" \"\xe9\"", 5, api.ErrForm),
			ok(regime, "\"a\"\n", "sa|"),
		})
	}
}

// P4.1: formats.
func TestFormats(t *testing.T) {
	for _, regime := range regimes {
		testTexts(t, []textCase{
			ok(regime, "$$", "f|"), ok(regime, "$ 3d, \"$\" $$$", "f 3d, \"$\" |f|"), ok(regime, "$a$b$c$", "fa|tb|fc|"), ok(regime, `$"a""b$"$`, `f"a""b$"|`),
			ok(regime, `$"$$""$"z"$"$`, `f"$$""$"z"$"|`), ok(regime, `$""$`, `f""|`), ok(regime, `$#CO'.!_$`, `f#CO'.!_|`), ok(regime, `$ A b $`, `f A b |`),
			ok(regime, `$"a"$"b"`, `f"a"|sb|`),
			bad(regime, "$", 0, api.ErrEnd), bad(regime, " $a", 1, api.ErrEnd), bad(regime, "$a$ $", 4, api.ErrEnd), bad(regime, `$"$`, 0, api.ErrEnd),
			bad(regime, `$"a""$`, 0, api.ErrEnd), bad(regime, `$"$"`, 0, api.ErrEnd), bad(regime, `$"a"$$"$`, 5, api.ErrEnd),
			bad(regime, "$a\n$", 2, api.ErrSyntax), bad(regime, "$\t", 1, api.ErrSyntax), bad(regime, "$\"\n\"$", 2, api.ErrSyntax),
			bad(regime, "$\"a$\n", 4, api.ErrSyntax), bad(regime, "$a\n\x01", 2, api.ErrSyntax), bad(regime, "$a\x01\n", 2, api.ErrForm),
			bad(regime, "$\"\x00", 2, api.ErrForm),
			ok(regime, "$a$\n", "fa|"),
		})
	}
}

// P4.1: each sign, and the longest one.
func TestSigns(t *testing.T) {
	for _, regime := range regimes {
		for _, a := range strings.Fields(signList) {
			testTexts(t, []textCase{ok(regime, a, "+"+a+"|"), ok(regime, a+"a", "+"+a+"|ta|"), ok(regime, " "+a+" 1", "+"+a+"|i1|"), ok(regime, "#a#"+a+"#b#", "+"+a+"|")})
			for _, b := range strings.Fields(signList) {
				testTexts(t, []textCase{ok(regime, a+" "+b, "+"+a+"|+"+b+"|"), ok(regime, a+"\n"+b, "+"+a+"|+"+b+"|"), ok(regime, a+"##"+b, "+"+a+"|+"+b+"|")})
			}
		}
		testTexts(t, []textCase{
			ok(regime, ":/=", "+:|+/=|"), ok(regime, ":=:=", "+:=:|+=|"), ok(regime, "::=", "+:|+:=|"), ok(regime, "+=", "++|+=|"),
			ok(regime, "+:=:", "++:=|+:|"), ok(regime, "+=:=", "++=:|+=|"), ok(regime, "***", "+**|+*|"), ok(regime, "**:=", "+**|+:=|"),
			ok(regime, "//:=", "+//|+:=|"), ok(regime, "%*:=:", "+%*:=|+:|"), ok(regime, "%**", "+%*|+*|"), ok(regime, "%*:", "+%*|+:|"),
			ok(regime, "%/", "+%|+/|"), ok(regime, "+*:=", "++*|+:=|"), ok(regime, "||:|", "+||+|:|+||"), ok(regime, "|:=", "+|:|+=|"),
			ok(regime, "<=>=", "+<=|+>=|"), ok(regime, "<>", "+<|+>|"), ok(regime, "=:", "+=|+:|"), ok(regime, "==", "+=|+=|"),
			ok(regime, "-:=-:", "+-:=|+-|+:|"), ok(regime, "--", "+-|+-|"), ok(regime, ":/=::/", "+:/=:|+:|+/|"),
			ok(regime, "a:=:b|:c+:=:/=:", "ta|+:=:|tb|+|:|tc|++:=|+:/=:|"), ok(regime, "/=:", "+/=|+:|"), ok(regime, "()", "+(|+)|"),
			ok(regime, "[@]", "+[|+@|+]|"),
		})
	}
}

// P4.1: comments.
func TestComments(t *testing.T) {
	for _, regime := range regimes {
		for _, word := range []string{"CO", "COMMENT", "PR", "PRAGMAT"} {
			w, other := bold(word, regime), bold(map[string]string{"CO": "COMMENT", "COMMENT": "CO", "PR": "CO", "PRAGMAT": "PR"}[word], regime)
			testTexts(t, []textCase{
				ok(regime, w+" "+w, ""), ok(regime, w+" x "+w+" a", "ta|"), ok(regime, "a "+w+" x "+w+" b", "ta|tb|"), ok(regime, w+" "+other+" "+w+"(", "+(|"),
				ok(regime, w+" # \" $ "+w+" # x #1", "i1|"), ok(regime, w+"\n\t \n"+w+"\n", ""), ok(regime, w+" "+w+" a "+w+" "+w, "ta|"),
				ok(regime, "1 "+w+" "+w+" .5", "i1|r.5|"), ok(regime, w+" ! _ \\ ? { "+w, ""),
				ok(regime, w+" "+bold("COX", regime)+" "+bold("PRA", regime)+" "+w, ""), ok(regime, w+" "+many(41, "A")+" "+w+" a", "ta|"),
				ok(regime, w+" "+bold(many(50, "A"), regime)+" "+w+" a", "ta|"), ok(regime, w+" - "+w+"+", "++|"),
				bad(regime, w, 0, api.ErrEnd), bad(regime, "  "+w+" ", 2, api.ErrEnd), bad(regime, w+" "+other, 0, api.ErrEnd),
				bad(regime, w+" "+w+" "+w, 2*len(w)+2, api.ErrEnd), bad(regime, w+" a\x01", len(w)+2, api.ErrForm), bad(regime, w+" \x0c "+w, len(w)+1, api.ErrForm),
				bad(regime, w+"\n\t\"\n\r "+w, len(w)+4, api.ErrForm), bad(regime, w+" x #", 0, api.ErrEnd), bad(regime, w+" "+w+" !", 2*len(w)+2, api.ErrSyntax),
			})
		}
		testTexts(t, []textCase{
			ok(regime, "##", ""), ok(regime, "# #", ""), ok(regime, "#a#b#c#", "tb|"), ok(regime, "a#\n#b", "ta|tb|"), ok(regime, "#x# #1#", ""),
			ok(regime, "# "+bold("CO", regime)+" # a # CO 1#", "ta|"), ok(regime, "# \" #a# $ ' #", "ta|"), ok(regime, "1#1#", "i1|"),
			ok(regime, "+##:=", "++|+:=|"), ok(regime, "# "+bold(many(50, "A"), regime)+"#", ""),
			bad(regime, "#", 0, api.ErrEnd), bad(regime, "a###", 3, api.ErrEnd), bad(regime, "# # #", 4, api.ErrEnd), bad(regime, "#\x01#", 1, api.ErrForm),
			bad(regime, "#\n\t\x1f", 3, api.ErrForm), bad(regime, "# "+bold("CO", regime), 0, api.ErrEnd),
		})
	}
}

// P4.1: bold words in comments: as in a text, but in Upper none directly behind a small letter or digit.
func TestWordsInComments(t *testing.T) {
	testTexts(t, []textCase{
		ok(0, "COx COy CO z CO", "ty|"), ok(0, "CO xCO CO a", "ta|"), ok(0, "CO 1CO CO a", "ta|"), ok(0, "CO x1CO CO a", "ta|"), ok(0, "CO xACO CO a", "ta|"),
		ok(0, "CO xAbCO CO a", "ta|"), ok(0, "CO (CO)", "+)|"), ok(0, "CO \"CO\"a\"", "sa|"), ok(0, "CO .CO a", "ta|"), ok(0, "CO 'CO a", "ta|"),
		ok(0, "CO COA ACO CO a", "ta|"), ok(0, "CO co .co 'co' Co CO a", "ta|"), ok(0, "aCO COb", "ta|tb|"), ok(0, "1CO CO 2", "i1|i2|"),
		ok(0, "aPRx PRb", "ta|tb|"),
		bad(0, "1CO CO2", 1, api.ErrEnd), bad(0, "CO xCO", 0, api.ErrEnd), bad(0, "a CO 9CO", 2, api.ErrEnd), bad(0, "CO COCO", 0, api.ErrEnd),
		bad(0, "COCO CO", 5, api.ErrEnd), bad(0, "CO COx CO CO CO", 13, api.ErrEnd),

		ok(1, ".co x.co a", "ta|"), ok(1, ".co 1.CO a", "ta|"), ok(1, ".cO..Co a", "ta|"), ok(1, ".co .cox .xco CO 'co' co .co a", "ta|"),
		ok(1, ".co .co1 .co.5", "r.5|"), ok(1, ".co \".co\"a\"", "sa|"), ok(1, "a.co .co.b", "ta|BB|"), ok(1, ".co .a.co a", "ta|"),
		bad(1, ".coa .co", 5, api.ErrEnd), bad(1, ".co.coa", 0, api.ErrEnd), bad(1, "1.co .co1", 1, api.ErrEnd),

		ok(2, "'co'x'co'a", "ta|"), ok(2, "'co''CO'a", "ta|"), ok(2, "'co' it's 'co' a", "ta|"), ok(2, "'co' its' 'co' a", "ta|"),
		ok(2, "'co' 'tis' 'co' a", "ta|"), ok(2, "'co' 'cox' CO .co 'co ''co'a", "ta|"), ok(2, "'co' ''' 'co' a", "ta|"), ok(2, "'co' '1''co'a", "ta|"),
		ok(2, "'Co' \"'cO'\"a\"", "sa|"), ok(2, "1'co'1'co'1", "i1|i1|"),
		bad(2, "'co' 'a'co'", 0, api.ErrEnd), bad(2, "'co' 'co", 0, api.ErrEnd), bad(2, "'co' co'", 0, api.ErrEnd),
	})
}

// testPragmat tests what a pragmat of a regime, written in several ways, does to what follows.
func testPragmat(t *testing.T, from int, inner string, to int) {
	t.Helper()
	probe := []string{"IFa", ".ifa", "'if'a"}[to]
	want := []string{"BIF|ta|", "BIFA|", "BIF|ta|"}[to]
	for _, word := range []string{"PR", "PRAGMAT"} {
		w := bold(word, from)
		testTexts(t, []textCase{ok(from, w+inner+w+" "+probe, want), ok(from, "a"+w+inner+w+"\n"+probe, "ta|"+want)})
		if to != strop.Upper {
			testTexts(t, []textCase{ok(from, w+inner+w+probe, want)})
		}
	}
}

// P4.1: pragmats that set a regime, and those that do not.
func TestPragmats(t *testing.T) {
	for _, from := range regimes {
		for to, name := range []string{"upper", "point", "quote"} {
			for _, s := range []string{name, strings.ToUpper(name), strings.ToUpper(name[:1]) + name[1:], name[:4] + strings.ToUpper(name[4:])} {
				for _, blanks := range []string{" ", "\n", "\t", " \n\t  "} {
					testPragmat(t, from, blanks+s+blanks, to)
				}
			}
			if from != strop.Upper {
				testPragmat(t, from, " "+name, to)
			}
			for _, s := range []string{"", name + "s", name[1:], name + " " + name, name + ";", "\"" + name + "\"", "# #" + name, "-" + name, "." + name, "'" + name + "'", name[:2] + " " + name[2:], "the " + name} {
				testPragmat(t, from, " "+s+" ", from)
			}
			co := bold("CO", from)
			testTexts(t, []textCase{ok(from, co+" "+name+" "+co+" "+bold("if", from), "BIF|"), ok(from, "# "+name+" # "+bold("if", from), "BIF|")})
		}
	}
	testTexts(t, []textCase{
		ok(0, "PR point PR .if", "BIF|"), ok(0, "IF PR point PR .if .pr quote .pr 'if' 'pr' upper 'pr' IF", "BIF|BIF|BIF|BIF|"),
		ok(2, "'pr'upper'pr'IF", "BIF|"), ok(2, "'pr'UPPER'pr'IF", "BIF|"), ok(1, ".pr upper.pr IF", "BIF|"), ok(0, "PRpoint PR.fi", "BFI|"),
		ok(0, "PR point PR PR upper PR", "tprupperpr|"),
		bad(0, "PRpointPR .if", 0, api.ErrEnd), bad(0, "PR point PRAGMAT .if", 0, api.ErrEnd), bad(0, "PR point PR IF.fi .pr", 18, api.ErrEnd),
		bad(0, "PR quote PR .fi", 12, api.ErrSyntax), bad(0, "PR point", 0, api.ErrEnd), bad(0, "PR point PR 'if'", 12, api.ErrSyntax),
	})
}

// P4.1: the first fault from left to right is returned, and no symbols with it.
func TestFirstFault(t *testing.T) {
	faults := []struct {
		text string
		at   int
		e    api.Errno
	}{{"\x01", 0, api.ErrForm}, {"!", 0, api.ErrSyntax}, {many(41, "a"), 0, api.ErrLimit}, {many(101, "1"), 0, api.ErrLimit}, {"3r1", 0, api.ErrRange}, {"\"\n\"", 1, api.ErrSyntax}, {"$\x02$", 1, api.ErrForm}, {"#\x02#", 1, api.ErrForm}}
	for _, regime := range regimes {
		for _, a := range faults {
			for _, b := range faults {
				s := "x, "
				testTexts(t, []textCase{bad(regime, s+a.text+" , "+b.text, len(s)+a.at, a.e), bad(regime, s+a.text+" ,\"", len(s)+a.at, a.e), bad(regime, s+a.text+" ,$", len(s)+a.at, a.e), bad(regime, s+a.text+" , "+bold("CO", regime), len(s)+a.at, a.e)})
			}
		}
		testTexts(t, []textCase{bad(regime, "\"a\x01", 2, api.ErrForm), bad(regime, "\"a !", 0, api.ErrEnd), bad(regime, "# 3r1 !", 0, api.ErrEnd), bad(regime, "$3r1!\x01", 5, api.ErrForm), bad(regime, "(! # \x01 #", 1, api.ErrSyntax)})
	}
}
