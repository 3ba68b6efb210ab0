package indicants_test

import (
	"math"
	"math/rand/v2"
	"strconv"
	"strings"
	"testing"

	"environ/api"
	"environ/indicants"
)

// source gives numbers that look like random ones, the same ones in each run.
func source() *rand.Rand { return rand.New(rand.NewPCG(6, 1968)) }

// many returns a text n times, with blanks behind it.
func many(n int, s string) string { return strings.Repeat(s+" ", n) }

// place is At of the symbol with an index in the lists of these tests.
func place(i int) int { return 1000 - 7*i }

// symbol returns the symbol that a word says: a bold word, a tag, an integer, a real number, a sign, or with $ the end.
func symbol(word string, at int) api.Symbol {
	kind := api.SymSign
	switch c := word[0]; {
	case c == '$':
		return api.Symbol{At: at}
	case 'A' <= c && c <= 'Z':
		kind = api.SymBold
	case 'a' <= c && c <= 'z':
		kind = api.SymTag
	case '0' <= c && c <= '9':
		kind = api.SymInt
		if strings.ContainsAny(word, ".e") {
			kind = api.SymReal
		}
	}
	return api.Symbol{Kind: kind, Text: word, At: at}
}

// list returns the symbols that words with blanks between them say.
func list(text string) []api.Symbol {
	var l []api.Symbol
	for i, word := range strings.Fields(text) {
		l = append(l, symbol(word, place(i)))
	}
	return l
}

// words returns symbols as a text.
func words(l []api.Symbol) string {
	s := ""
	for _, x := range l {
		if x.Kind == symbol(x.Text+"?", 0).Kind {
			s += x.Text + " "
		} else {
			s += strconv.Itoa(x.Kind) + "'" + x.Text + " "
		}
		if len(s) > 300 {
			return s + ".."
		}
	}
	return s
}

// showRange returns a range as a text: From-To^Outer, and what it declares, with M, O and P in front.
func showRange(r indicants.Range) string {
	s := strconv.Itoa(r.From) + "-" + strconv.Itoa(r.To) + "^" + strconv.Itoa(r.Outer)
	for _, m := range r.Modes {
		s += " M" + m
	}
	for _, o := range r.Ops {
		s += " O" + o
	}
	for _, p := range r.Prios {
		s += " P" + p.Op + strconv.Itoa(p.Level)
	}
	return s
}

// showRanges returns the ranges of a table as a text.
func showRanges(t indicants.Table) string {
	s := ""
	for i, r := range t.Ranges {
		if i > 0 {
			s += "; "
		}
		s += showRange(r)
	}
	return s
}

// showAt returns At of a table as a text of one letter for each symbol.
func showAt(t indicants.Table) string {
	s := ""
	for _, r := range t.At {
		if r < 0 || r >= 36 {
			s += "(" + strconv.Itoa(r) + ")"
		} else {
			s += strconv.FormatInt(int64(r), 36)
		}
	}
	return s
}

// show returns a table as a text.
func show(t indicants.Table) string { return showRanges(t) + " @" + showAt(t) }

// nothing is what Find returns with a fault.
const nothing = " @"

// meanings returns what Mode and Level say of each symbol of a list: m, a priority, or a point.
func meanings(t indicants.Table, l []api.Symbol) string {
	s := ""
	for i := range l {
		mode, level := t.Mode(l, i), t.Level(l, i)
		switch {
		case mode && level == 0:
			s += "m"
		case mode:
			s += "?"
		case level == 0:
			s += "."
		default:
			s += strconv.Itoa(level)
		}
	}
	return s
}

func expectTable(t *testing.T, l []api.Symbol, ranges, at string) {
	t.Helper()
	table, f := indicants.Find(l)
	if showRanges(table) != ranges || showAt(table) != at || f != (api.Fault{}) {
		t.Errorf("Find of %s is %s with the fault %d, not %s @%s", words(l), show(table), f, ranges, at)
	}
}

func expectRanges(t *testing.T, l []api.Symbol, ranges string) {
	t.Helper()
	table, f := indicants.Find(l)
	if showRanges(table) != ranges || f != (api.Fault{}) {
		t.Errorf("Find of %s is %s with the fault %d, not %s", words(l), showRanges(table), f, ranges)
	}
}

func expectFault(t *testing.T, l []api.Symbol, want api.Fault) {
	t.Helper()
	table, f := indicants.Find(l)
	if show(table) != nothing || f != want {
		t.Errorf("Find of %s is %s with the fault %d, not %d", words(l), show(table), f, want)
	}
}

// expectFaultAt expects a fault at the symbol with an index, or at the end of a list that has none there.
func expectFaultAt(t *testing.T, text string, at int, code api.Errno) {
	t.Helper()
	l := list(text)
	want := api.Fault{Code: code}
	if 0 <= at && at < len(l) {
		want.At = place(at)
	}
	expectFault(t, l, want)
}

// P6.1: the ranges of each kind of group, and the range of each symbol, brackets among them.
func TestRanges(t *testing.T) {
	for _, c := range []struct{ text, ranges, at string }{
		{"", "0-0^-1", ""}, {"$", "0-0^-1", ""}, {"a", "0-1^-1", "0"}, {"a ; B $", "0-3^-1", "000"}, {"$ ( a )", "0-0^-1", ""}, {"a $ MODE INT (", "0-1^-1", "0"},
		{"( )", "0-2^-1; 1-1^0", "00"}, {"( a )", "0-3^-1; 1-2^0", "010"}, {"a ( b ) c $", "0-5^-1; 2-3^0", "00100"},
		{"BEGIN a END", "0-3^-1; 1-2^0", "010"}, {"DO a OD", "0-3^-1; 1-2^0", "010"},
		{"[ a ]", "0-3^-1", "000"}, {"[ ( a ) , b ]", "0-7^-1; 2-3^0", "0010000"}, {"( [ ( a ) ] )", "0-7^-1; 1-6^0; 3-4^1", "0112110"},
		{"( ( ) ( ) ) ( )", "0-8^-1; 1-5^0; 2-2^1; 4-4^1; 7-7^0", "01111000"},
		{"IF a THEN b FI", "0-5^-1; 1-2^0; 3-4^1", "01020"}, {"IF a THEN b ELSE c FI", "0-7^-1; 1-2^0; 3-4^1; 5-6^1", "0102030"},
		{"IF a THEN b ELIF c THEN d ELIF e THEN f ELSE g FI", "0-15^-1; 1-2^0; 3-4^1; 5-6^1; 7-8^3; 9-10^3; 11-12^5; 13-14^5", "010203040506070"},
		{"CASE a IN b ESAC", "0-5^-1; 1-2^0; 3-4^1", "01020"}, {"CASE a IN b OUT c ESAC", "0-7^-1; 1-2^0; 3-4^1; 5-6^1", "0102030"},
		{"CASE a IN b OUSE c IN d OUT e ESAC", "0-11^-1; 1-2^0; 3-4^1; 5-6^1; 7-8^3; 9-10^3", "01020304050"},
		{"( a | b )", "0-5^-1; 1-2^0; 3-4^1", "01020"}, {"( a | b | c )", "0-7^-1; 1-2^0; 3-4^1; 5-6^1", "0102030"},
		{"( a | b |: c | d |: e | f | g )", "0-15^-1; 1-2^0; 3-4^1; 5-6^1; 7-8^3; 9-10^3; 11-12^5; 13-14^5", "010203040506070"},
		{"( | |: | | )", "0-6^-1; 1-1^0; 2-2^1; 3-3^1; 4-4^3; 5-5^3", "000000"},
		{"IF ( a ) THEN ( b ) FI", "0-9^-1; 1-4^0; 2-3^1; 5-8^1; 6-7^3", "012103430"},
		{"IF [ a ] THEN ( IF b THEN c ELSE d FI ) ELIF e THEN f FI", "0-19^-1; 1-4^0; 5-14^1; 6-13^2; 7-8^3; 9-10^4; 11-12^4; 15-16^1; 17-18^7", "0111023435363207080"},
	} {
		expectTable(t, list(c.text), c.ranges, c.at)
	}
}

// P6.1: the ranges from a WHILE up to the next DO, and those of DO parts.
func TestWhile(t *testing.T) {
	for _, c := range []struct{ text, ranges, at string }{
		{"WHILE a DO b OD", "0-5^-1; 0-2^0; 3-4^1", "11020"}, {"FOR i TO n WHILE a DO b OD c", "0-10^-1; 4-6^0; 7-8^1", "0000110200"}, {"WHILE DO OD", "0-3^-1; 0-1^0; 2-2^1", "100"},
		{"TO n DO b OD", "0-5^-1; 3-4^0", "00010"}, {"WHILE a", "0-2^-1", "00"}, {"a WHILE b ; ( c ) WHILE", "0-8^-1; 5-6^0", "00000100"},
		// A second DO is behind no WHILE, and a further WHILE before the same DO begins no range.
		{"WHILE DO OD DO a OD", "0-6^-1; 0-1^0; 2-2^1; 4-5^0", "100030"}, {"DO OD WHILE DO OD", "0-5^-1; 1-1^0; 2-3^0; 4-4^2", "00200"},
		{"WHILE a WHILE b DO c OD d DO e OD", "0-11^-1; 0-4^0; 5-6^1; 9-10^0", "11110200030"}, {"WHILE WHILE WHILE DO OD", "0-5^-1; 0-3^0; 4-4^1", "11100"},
		{"WHILE a DO b OD WHILE c DO d OD WHILE e", "0-12^-1; 0-2^0; 3-4^1; 5-7^0; 8-9^3", "110203304000"},
		// Only a DO of the same level ends it; groups before it stand in it.
		{"WHILE ( a ) b DO c OD", "0-8^-1; 0-5^0; 2-3^1; 6-7^1", "11211030"}, {"( a ) WHILE ( b ) DO ( c ) OD ( d )", "0-15^-1; 1-2^0; 3-7^0; 5-6^2; 8-11^2; 9-10^4; 13-14^0", "010223204540060"},
		{"WHILE ( DO a OD )", "0-6^-1; 2-5^0; 3-4^1", "001210"}, {"( WHILE ) DO a OD", "0-6^-1; 1-2^0; 4-5^0", "010020"}, {"( a | WHILE ) DO b OD", "0-8^-1; 1-2^0; 3-4^1; 6-7^0", "01020030"},
		{"IF WHILE a THEN DO b OD FI", "0-8^-1; 1-3^0; 4-7^1; 5-6^2", "01102320"}, {"( WHILE | a | DO OD )", "0-8^-1; 1-2^0; 3-4^1; 5-7^1; 6-6^3", "01020330"},
		{"( WHILE a DO b OD )", "0-7^-1; 1-6^0; 1-3^1; 4-5^2", "0221310"}, {"IF WHILE a DO b OD THEN WHILE c DO d OD FI", "0-13^-1; 1-6^0; 1-3^1; 4-5^2; 7-12^1; 7-9^4; 10-11^5", "0221310554640"},
		{"DO WHILE DO OD OD", "0-5^-1; 1-4^0; 1-2^1; 3-3^2", "02110"}, {"WHILE WHILE DO DO OD OD", "0-6^-1; 0-2^0; 3-5^1; 4-4^2", "110220"},
		{"WHILE ( WHILE a DO b OD ) DO c OD", "0-11^-1; 0-8^0; 2-7^1; 2-4^2; 5-6^3; 9-10^1", "11332421050"},
		// What stands in [ ] has a level, but no range.
		{"[ WHILE a DO b OD ]", "0-7^-1; 1-3^0; 4-5^1", "0110200"}, {"WHILE [ a ] DO [ b ] OD", "0-9^-1; 0-4^0; 5-8^1", "111102220"}, {"WHILE [ DO a OD ]", "0-6^-1; 3-4^0", "000100"}, {"[ WHILE ] DO OD", "0-5^-1; 4-4^0", "00000"},
	} {
		expectTable(t, list(c.text), c.ranges, c.at)
	}
	// A symbol of another kind is no WHILE, and begins no DO part.
	l := list("WHILE WHILE DO a OD")
	l[0].Kind = api.SymTag
	expectTable(t, l, "0-5^-1; 1-2^0; 3-4^1", "01020")
	l[1].Kind = api.SymSign
	expectTable(t, l, "0-5^-1; 3-4^0", "00010")
	l = list("WHILE DO DO OD")
	l[1].Kind = api.SymString
	expectTable(t, l, "0-4^-1; 0-2^0; 3-3^1", "1100")
}

// P6.1: declarations of the three kinds, behind their words and behind commas.
func TestDeclarations(t *testing.T) {
	for _, c := range []struct{ text, ranges string }{
		{"MODE A = INT", "0-4^-1 MA"}, {"a ; MODE A = INT $", "0-6^-1 MA"}, {"MODE A =", "0-3^-1 MA"}, {"PRIO A = 3", "0-4^-1 PA3"}, {"PRIO + = 3 $", "0-4^-1 P+3"}, {"OP A = x", "0-4^-1 OA"}, {"OP + =", "0-3^-1 O+"},
		{"OP = = x ; PRIO = = 4", "0-9^-1 O= P=4"}, {"OP +:= = x", "0-4^-1 O+:="},
		{"MODE A = INT , B = REF A", "0-9^-1 MA MB"}, {"PRIO A = 1 , + = 9 , B = 5", "0-12^-1 PA1 P+9 PB5"}, {"OP A = x , + = y , A = z", "0-12^-1 OA O+ OA"},
		{"MODE A = INT ; MODE B = REAL EXIT OP A1 = b MODE A2 = c", "0-18^-1 MA MB MA2 OA1"},
		// Of another kind, or not quite of this one.
		{"MODE A = INT , + = x", "0-8^-1 MA"}, {"MODE A = INT , b = x", "0-8^-1 MA"}, {"MODE A = INT , INT = x", "0-8^-1 MA"}, {"MODE A = INT , B x", "0-7^-1 MA"}, {"MODE A = INT , B", "0-6^-1 MA"}, {"MODE A = INT ,", "0-5^-1 MA"}, {"MODE A = INT , B := x", "0-8^-1 MA"},
		{"OP A = x , b = y", "0-8^-1 OA"}, {"OP A = x , INT = y", "0-8^-1 OA"}, {"OP A = x , := = y", "0-8^-1 OA"}, {"OP A = x , B - y", "0-8^-1 OA"}, {"OP A = x , +", "0-6^-1 OA"}, {"OP A = x , 3 = y", "0-8^-1 OA"},
		{"PRIO A = 1 , B = x", "0-8^-1 PA1"}, {"PRIO A = 1 , B = 2.5", "0-8^-1 PA1"}, {"PRIO A = 1 , B 2", "0-7^-1 PA1"}, {"PRIO A = 1 , B =", "0-7^-1 PA1"}, {"PRIO A = 1 , INT = 2", "0-8^-1 PA1"}, {"PRIO A = 1 , b = 2", "0-8^-1 PA1"}, {"PRIO A = 1 , B = = 2", "0-9^-1 PA1"}, {"PRIO A = 1 , A = x", "0-8^-1 PA1"},
		// What is of another kind ends them; a word begins another kind.
		{"MODE A = INT , b , C = REAL", "0-10^-1 MA"}, {"OP A = x , REAL b = y , C = z", "0-13^-1 OA"}, {"PRIO A = 1 , B = x , C = 3", "0-12^-1 PA1"}, {"MODE A = INT , , B = REAL", "0-9^-1 MA"},
		{"MODE A = INT , OP B = x , C = y", "0-13^-1 MA OB OC"}, {"MODE A = INT , PRIO B = 1 , C = 2 , OP D = x , E = y", "0-22^-1 MA OD OE PB1 PC2"}, {"OP A = x MODE B = y , C = z", "0-12^-1 MB MC OA"}, {"PRIO A = 1 , + = 2 ; OP B = x , C = 3 , + = 4", "0-21^-1 OB OC O+ PA1 P+2"},
		// Up to ; or EXIT, or the end of the range.
		{"MODE A = INT ; , B = REAL", "0-9^-1 MA"}, {"MODE A = INT EXIT , B = REAL", "0-9^-1 MA"}, {"OP A = x ; a , B = y", "0-10^-1 OA"}, {"PRIO A = 1 EXIT a , B = 2", "0-10^-1 PA1"},
		{"( MODE A = INT ) , B = REAL", "0-10^-1; 1-5^0 MA"}, {"( MODE A = INT | , B = REAL )", "0-11^-1; 1-5^0 MA; 6-10^1"}, {"IF OP A = x THEN , B = y FI", "0-11^-1; 1-5^0 OA; 6-10^1"},
		{"MODE A = INT WHILE , B = REAL DO , C = VOID OD , D = BOOL", "0-19^-1 MA MD; 4-9^0; 10-14^1"}, {"WHILE OP A = x DO , B = y OD , C = z", "0-15^-1; 0-5^0 OA; 6-10^1"}, {"MODE A = INT WHILE a ; b DO c EXIT d OD , D = BOOL", "0-17^-1 MA MD; 4-8^0; 9-12^1"},
		{"MODE A = STRUCT ( INT a , B = b ; c ) , C = INT", "0-18^-1 MA MC; 5-13^0"}, {"MODE A = [ 1 , B = 3 ; x EXIT y ] INT , C = INT", "0-19^-1 MA MC"}, {"MODE A = INT x y z , B = w", "0-11^-1 MA MB"},
		// What is no declaration.
		{"MODE A INT", "0-3^-1"}, {"MODE A", "0-2^-1"}, {"OP + x", "0-3^-1"}, {"OP A", "0-2^-1"}, {"PRIO A 3", "0-3^-1"}, {"PRIO +", "0-2^-1"}, {"MODE A := INT", "0-4^-1"}, {"MODE + = INT", "0-4^-1"}, {"PRIO A /= 3", "0-4^-1"}, {"MODE A INT , B = REAL", "0-7^-1"},
		{"A = INT", "0-3^-1"}, {", A = INT", "0-4^-1"}, {"MODE A = INT , MODE B C , D = REAL", "0-12^-1 MA"}, {"( MODE A ) = INT", "0-6^-1; 1-3^0"}, {"PRIO A ( ) = 3", "0-6^-1; 3-3^0"},
		// In [ ] is the level of no range, but in ranges in it.
		{"[ MODE A = INT ]", "0-6^-1"}, {"[ MODE INT , PRIO A = 0 , OP a ]", "0-12^-1"}, {"[ ( MODE A = INT ) ]", "0-8^-1; 2-6^0 MA"}, {"[ WHILE MODE A = INT DO OP B = x OD ]", "0-13^-1; 1-6^0 MA; 7-11^1 OB"}, {"[ [ ] MODE A = INT ] MODE B = INT", "0-12^-1 MB"}, {"[ WHILE [ MODE A = INT ] , MODE B = INT DO OD ]", "0-16^-1; 1-13^0 MB; 14-14^1"},
		// At the levels of ranges of all kinds.
		{"BEGIN MODE A = INT END DO OP A = x OD", "0-12^-1; 1-5^0 MA; 7-11^0 OA"}, {"CASE MODE A = INT IN PRIO A = 2 OUSE OP A = x IN MODE A = x OUT A ESAC", "0-23^-1; 1-5^0 MA; 6-10^1 PA2; 11-15^1 OA; 16-20^3 MA; 21-22^3"},
	} {
		expectRanges(t, list(c.text), c.ranges)
		expectRanges(t, list(c.text+" $ ) MODE INT , A = 1"), c.ranges)
	}
}

// P6.1: the chapter's examples.
func TestExamples(t *testing.T) {
	l := list("BEGIN A x ; MODE A = INT ; ( PRIO A = 3 ; y A z ) ; A u END $")
	expectTable(t, l, "0-23^-1; 1-22^0 MA; 10-18^1 PA3", "01111111112222222211110")
	table, _ := indicants.Find(l)
	if got := meanings(table, l); got != ".m...m4....34...3...m..."[:len(l)] {
		t.Errorf("the words mean %s", got)
	}
	expectRanges(t, list("MODE B = INT , C = REF B"), "0-9^-1 MB MC")
	expectFault(t, list("MODE INT = REAL"), api.Fault{At: place(1), Code: api.ErrName})
}

// P6.1: faults; At is given as the index of the symbol, or -1 or the length, if the list has no end.
func TestFaults(t *testing.T) {
	for _, c := range []struct {
		text string
		at   int
		code api.Errno
	}{
		{"( ]", 1, api.ErrSyntax}, {"MODE INT ]", 2, api.ErrSyntax}, {"( MODE $", 2, api.ErrEnd}, {"MODE (", -1, api.ErrEnd}, {"IF MODE FI", 2, api.ErrSyntax}, {"MODE INT " + many(65, "("), 66, api.ErrLimit},
		{"MODE INT = x", 1, api.ErrName}, {"MODE MODE A = x", 1, api.ErrName}, {"MODE PRAGMAT", 1, api.ErrName}, {"MODE a = x", 1, api.ErrName}, {"MODE := = x", 1, api.ErrName}, {"MODE 1", 1, api.ErrName}, {"MODE ; MODE INT", 1, api.ErrName}, {"MODE $", 1, api.ErrName}, {"a MODE", -1, api.ErrName},
		{"OP INT = x", 1, api.ErrName}, {"OP a = x", 1, api.ErrName}, {"OP := = x", 1, api.ErrName}, {"OP OF x", 1, api.ErrName}, {"OP , x", 1, api.ErrName}, {"OP $ +", 1, api.ErrName}, {"OP", -1, api.ErrName},
		{"PRIO INT = 3", 1, api.ErrName}, {"PRIO a = 3", 1, api.ErrName}, {"PRIO :=: = 3", 1, api.ErrName}, {"PRIO 3", 1, api.ErrName}, {"a PRIO $", 2, api.ErrName}, {"PRIO", -1, api.ErrName}, {"PRIO IS = 0", 1, api.ErrName},
		{"( MODE )", 2, api.ErrName}, {"( OP | a )", 2, api.ErrName}, {"IF PRIO THEN FI", 2, api.ErrName}, {"MODE ( a )", 1, api.ErrName}, {"OP [ ]", 1, api.ErrName}, {"WHILE MODE DO OD", 2, api.ErrName}, {"MODE WHILE DO OD", 1, api.ErrName}, {"MODE A = INT , MODE INT", 6, api.ErrName}, {"[ ( OP a ) ]", 3, api.ErrName}, {"[ WHILE OP DO OD ]", 3, api.ErrName},
		{"PRIO A = 0", 3, api.ErrRange}, {"PRIO + = 10", 3, api.ErrRange}, {"PRIO A = a", 3, api.ErrRange}, {"PRIO A = 3.0", 3, api.ErrRange}, {"PRIO A = B", 3, api.ErrRange}, {"PRIO A = - 3", 3, api.ErrRange}, {"PRIO A = = 3", 3, api.ErrRange}, {"PRIO A = ;", 3, api.ErrRange}, {"( PRIO A = )", 4, api.ErrRange}, {"PRIO A = ( 3 )", 3, api.ErrRange}, {"PRIO A = $", 3, api.ErrRange}, {"a PRIO A =", -1, api.ErrRange}, {"PRIO A = MODE INT", 3, api.ErrRange},
		{"PRIO A = 1 , B = 0", 7, api.ErrRange}, {"PRIO A = 1 , B = 2 , C = 10", 11, api.ErrRange},
		{"MODE A = INT ; MODE A = REAL", 6, api.ErrTwice}, {"MODE A = INT , A = REAL", 5, api.ErrTwice}, {"MODE A = INT , B = x EXIT ( ) MODE C = y , D = z , A = u", 20, api.ErrTwice},
		{"PRIO A = 1 ; PRIO A = 1", 6, api.ErrTwice}, {"PRIO + = 1 , + = 2", 5, api.ErrTwice}, {"PRIO A = 1 , A = 0", 5, api.ErrTwice}, {"PRIO A = 1 ; PRIO A = 0", 6, api.ErrTwice}, {"PRIO A = 1 ; PRIO A = 10", 6, api.ErrTwice}, {"PRIO = = 1 , = = 2", 5, api.ErrTwice},
		{"MODE A = INT ; OP A = x", 6, api.ErrTwice}, {"OP A = x ; MODE A = INT", 6, api.ErrTwice}, {"MODE A = INT ; PRIO A = 3", 6, api.ErrTwice}, {"PRIO A = 3 ; MODE A = INT", 6, api.ErrTwice}, {"MODE A = INT ; PRIO A = 0", 6, api.ErrTwice}, {"OP A = x , A = y ; PRIO A = 3 ; MODE B = z , A = z", 19, api.ErrTwice}, {"OP A = x ; MODE B = INT , A = y", 10, api.ErrTwice}, {"( MODE A = INT , OP A = x )", 7, api.ErrTwice}, {"WHILE MODE A = x WHILE OP A = y DO OD", 7, api.ErrTwice}, {"MODE A = x WHILE a DO b OD , A = y", 10, api.ErrTwice},
		// The first of several, in the order of the text.
		{"MODE INT ; PRIO A = 0", 1, api.ErrName}, {"PRIO A = 0 ; MODE INT", 3, api.ErrRange}, {"MODE A = x , A = y ; MODE INT ; PRIO A = 0", 5, api.ErrTwice}, {"( PRIO A = 0 ) MODE INT", 4, api.ErrRange}, {"IF a THEN OP a ELSE MODE INT FI", 4, api.ErrName}, {"MODE A = ( OP INT ) , A = y", 5, api.ErrName}, {"OP A = x ; ( MODE A = y , A = z ) ; MODE A = w", 11, api.ErrTwice},
	} {
		expectFaultAt(t, c.text, c.at, c.code)
	}
}

// P6.1: PRIO, an operator and = declare nothing without an integer behind them, so that no range declares the operator twice by them; the fault is at what stands in the integer's place.
func TestNoInteger(t *testing.T) {
	for _, front := range []string{"", "MODE A = INT ; ", "PRIO A = 1 ; ", "PRIO A = 1 , + = 2 ; ", "PRIO A = 1 , ", "OP A = x , + = y ; ", "MODE A = INT WHILE b DO c OD , B = x ; ", "( MODE A = INT ) ; "} {
		for _, op := range []string{"A", "+", "="} {
			for _, behind := range []string{"", "x", "1.5", "B", "A", "INT", "+", "= 3", "- 3", ";", ", A = 1", "EXIT", "( 3 )", "[ 3 ]", "MODE INT", "PRIO A = 0", "WHILE 1 DO OD", "$ 3"} {
				begun := front + "PRIO " + op + " ="
				expectFaultAt(t, begun+" "+behind, len(strings.Fields(begun)), api.ErrRange)
			}
		}
	}
	for _, c := range []struct {
		text string
		at   int
	}{
		{"( MODE A = INT ; PRIO A = )", 9}, {"( PRIO A = 1 ; PRIO A = | b )", 9}, {"IF MODE A = INT ; PRIO A = THEN FI", 9}, {"WHILE PRIO A = 1 ; PRIO A = DO OD", 9}, {"[ ( MODE A = INT ; PRIO A = ) ]", 10}, {"MODE A = INT ; ( b ) PRIO A = ; MODE A = INT", 11},
	} {
		expectFaultAt(t, c.text, c.at, api.ErrRange)
	}
	// Symbols of all other kinds are no integers, whatever their texts are.
	for _, kind := range []int{api.SymEnd, api.SymBold, api.SymTag, api.SymReal, api.SymBits, api.SymString, api.SymFormat, api.SymSign, -1, 9, math.MinInt, math.MaxInt} {
		for _, front := range []string{"MODE A = INT ; PRIO A =", "PRIO A = 1 ; PRIO A =", "PRIO A ="} {
			l := list(front + " 3 ; b")
			n := len(l) - 3
			l[n].Kind = kind
			expectFault(t, l, api.Fault{At: place(n), Code: api.ErrRange})
		}
	}
}

// P6.1: what is no fault.
func TestNoFaults(t *testing.T) {
	for _, text := range []string{
		"OP A = x ; OP A = y , A = z", "OP A = x ; PRIO A = 3", "PRIO A = 3 ; OP A = x , A = y", "OP + = x , + = y ; PRIO + = 6",
		"MODE A = INT ; ( MODE A = REAL )", "( MODE A = INT ) ; ( MODE A = REAL )", "MODE A = INT ; ( OP A = x )", "OP A = x ; ( MODE A = INT )", "PRIO A = 1 ; ( PRIO A = 2 )", "IF MODE A = INT THEN PRIO A = 2 ELIF OP A = x THEN MODE A = x ELSE MODE A = x FI", "WHILE MODE A = INT DO MODE A = x OD ; MODE A = y",
		"MODE A = INT ; MODE A x", "MODE A = INT ; A = x", "MODE A = INT , B = x , A", "MODE A = INT ; , A = x", "PRIO A = 1 , A", "MODE A = INT ; [ MODE A = INT ]", "MODE A = INT $ MODE A = INT ; OP a", "PRIO A = 1 ; A = 0",
	} {
		if table, f := indicants.Find(list(text)); f != (api.Fault{}) || len(table.Ranges) == 0 {
			t.Errorf("Find of %s has the fault %d", text, f)
		}
	}
}

// P6.1: symbols of other kinds with the texts of words and signs are none of them.
func TestOtherKinds(t *testing.T) {
	kinds := []int{api.SymBold, api.SymTag, api.SymInt, api.SymReal, api.SymBits, api.SymString, api.SymFormat, api.SymSign, -1, 9, 100, math.MinInt, math.MaxInt}
	for _, c := range []struct {
		text string
		at   int
		// What Find returns, if the symbol there has another kind: ranges, or a fault at a symbol.
		ranges string
		fault  int
		code   api.Errno
	}{
		{"MODE A = INT", 0, "0-4^-1", 0, 0}, {"OP A = x", 0, "0-4^-1", 0, 0}, {"PRIO A = 3", 0, "0-4^-1", 0, 0}, {"OP INT = x", 0, "0-4^-1", 0, 0},
		{"MODE A = INT", 2, "0-4^-1", 0, 0}, {"OP A = x", 2, "0-4^-1", 0, 0}, {"PRIO A = 3", 2, "0-4^-1", 0, 0},
		{"MODE A = INT", 1, "", 1, api.ErrName}, {"OP A = x", 1, "", 1, api.ErrName}, {"OP + = x", 1, "", 1, api.ErrName}, {"PRIO A = 3", 1, "", 1, api.ErrName}, {"PRIO = = 3", 1, "", 1, api.ErrName}, {"PRIO A = 3", 3, "", 3, api.ErrRange},
		{"MODE A = INT , B = x", 4, "0-8^-1 MA", 0, 0}, {"MODE A = INT , B = x", 5, "0-8^-1 MA", 0, 0}, {"MODE A = INT , B = x", 6, "0-8^-1 MA", 0, 0}, {"OP A = INT , + = x", 5, "0-8^-1 OA", 0, 0}, {"PRIO A = 1 , B = 2", 7, "0-8^-1 PA1", 0, 0}, {"PRIO A = 1 , B = 0", 7, "0-8^-1 PA1", 0, 0},
		{"MODE A = INT ; a , B = x", 4, "0-10^-1 MA MB", 0, 0}, {"MODE A = INT EXIT a , B = x", 4, "0-10^-1 MA MB", 0, 0},
	} {
		for _, kind := range kinds {
			l := list(c.text)
			// As a bold word the text of a sign may be declared, too.
			if kind == l[c.at].Kind || kind == api.SymBold && indicants.Operator(l[c.at]) {
				continue
			}
			l[c.at].Kind = kind
			if c.code == api.OK {
				expectRanges(t, l, c.ranges)
			} else {
				expectFault(t, l, api.Fault{At: place(c.fault), Code: c.code})
			}
		}
	}
	// What is read as it is: a bold word may have any text, and so may an integer.
	l := list("OP A = x ; MODE B = y ; PRIO C = 2")
	l[1].Text, l[6].Text, l[11].Text = "+", "a b", ""
	expectRanges(t, l, "0-14^-1 Ma b O+ P2")
	for _, text := range []string{"mode", "Mode", " MODE", "MODE ", "MODES", "M"} {
		l := list("MODE INT")
		l[0].Text = text
		expectRanges(t, l, "0-2^-1")
	}
}

// P6.1: which integers are priorities.
func TestPriorities(t *testing.T) {
	for _, c := range []struct {
		text string
		want int
	}{
		{"1", 1}, {"2", 2}, {"3", 3}, {"4", 4}, {"5", 5}, {"6", 6}, {"7", 7}, {"8", 8}, {"9", 9}, {"01", 1}, {"009", 9}, {strings.Repeat("0", 99) + "5", 5}, {strings.Repeat("0", 70000) + "1", 1},
		{"0", 0}, {"00", 0}, {"10", 0}, {"11", 0}, {"19", 0}, {"99", 0}, {"010", 0}, {"100", 0}, {"257", 0}, {"65537", 0}, {"4294967297", 0}, {"18446744073709551617", 0}, {strings.Repeat("1", 100), 0}, {"1" + strings.Repeat("0", 99), 0}, {strings.Repeat("9", 70000), 0},
		{"", 0}, {"a", 0}, {"+3", 0}, {"-3", 0}, {" 3", 0}, {"3 ", 0}, {"3_", 0}, {"0x3", 0}, {":", 0}, {"/", 0}, {"\xff", 0}, {"03a", 0},
	} {
		for _, front := range []string{"PRIO A", "PRIO B = 1 , A"} {
			l := list(front + " = 3")
			n := len(l) - 1
			l[n].Text = c.text
			if c.want == 0 {
				expectFault(t, l, api.Fault{At: place(n), Code: api.ErrRange})
				continue
			}
			if table, f := indicants.Find(l); f != (api.Fault{}) || table.Level(l, n-2) != c.want || table.Ranges[0].Prios[len(table.Ranges[0].Prios)-1].Level != c.want {
				t.Errorf("Find of %s is %s with the fault %d", words(l), show(table), f)
			}
		}
	}
}

// P6.1: At of a fault is that of its symbol, whatever it is.
func TestAnyAt(t *testing.T) {
	for _, at := range []int{0, 1, -1, 17, math.MinInt, math.MaxInt} {
		for _, other := range []int{0, at, 3, math.MinInt} {
			expectFault(t, []api.Symbol{symbol("MODE", other), symbol("INT", at), symbol("a", other)}, api.Fault{At: at, Code: api.ErrName})
			expectFault(t, []api.Symbol{symbol("OP", other), symbol("$", at), symbol("$", other)}, api.Fault{At: at, Code: api.ErrName})
			expectFault(t, []api.Symbol{symbol("a", at), symbol("PRIO", at)}, api.Fault{Code: api.ErrName})
			expectFault(t, []api.Symbol{symbol("PRIO", other), symbol("A", other), symbol("=", other), symbol("0", at)}, api.Fault{At: at, Code: api.ErrRange})
			expectFault(t, []api.Symbol{symbol("PRIO", other), symbol("A", other), symbol("=", other), symbol("1", other), symbol(",", other), symbol("A", at), symbol("=", other), symbol("1", other)}, api.Fault{At: at, Code: api.ErrTwice})
			expectFault(t, []api.Symbol{symbol("MODE", other), symbol("a", other), symbol("]", at)}, api.Fault{At: at, Code: api.ErrSyntax})
		}
	}
	// The Text of a SymEnd is not looked at.
	expectFault(t, []api.Symbol{symbol("MODE", 5), {Text: "A", At: 7}, symbol("=", 8)}, api.Fault{At: 7, Code: api.ErrName})
}

const reservedWords = `BEGIN END IF THEN ELIF ELSE FI CASE IN OUSE OUT ESAC FOR FROM BY TO WHILE DO OD GOTO EXIT MODE PRIO OP PROC REF FLEX STRUCT UNION LOC HEAP NIL SKIP TRUE FALSE EMPTY IS ISNT OF AT PAR VOID
INT REAL BOOL CHAR BITS COMPL STRING FILE FORMAT SEMA LONG SHORT CO COMMENT PR PRAGMAT`

const operatorSigns = "= /= < <= > >= + - * / % ^ & ~ ** // %* +* +:= -:= *:= /:= %:= %*:= +=:"

const otherSigns = "( ) [ ] , ; : @ | |: := :=: :/=: $ # ! ? . =: == => +=:= -=: *=: /=: +:=: ++ -- *+ %% ~= ^= \\ { }"

var standard = map[int]string{
	1: "+:= -:= *:= /:= %:= %*:= +=: PLUSAB MINUSAB TIMESAB DIVAB OVERAB MODAB PLUSTO", 2: "OR", 3: "& AND", 4: "= /= EQ NE", 5: "< <= > >= LT LE GT GE", 6: "+ -",
	7: "* / % %* OVER MOD ELEM", 8: "** ^ SHL SHR UP DOWN LWB UPB", 9: "+* I",
}

// P6.2: Reserved, Operator and Standard for all words of the chapter, and for others.
func TestWords(t *testing.T) {
	level := map[string]int{}
	for n, text := range standard {
		for _, word := range strings.Fields(text) {
			level[word] = n
		}
	}
	reserved := map[string]bool{}
	for _, word := range strings.Fields(reservedWords) {
		reserved[word] = true
	}
	sign := map[string]bool{}
	for _, word := range strings.Fields(operatorSigns) {
		sign[word] = true
	}
	texts := strings.Fields(reservedWords + " " + operatorSigns + " " + otherSigns + " A B NOT ABS REPR ROUND ENTIER ODD SIGN XOR ANDF THENF ORF ELSF AB OVERA I1 II MODE1 BEGI BEGINS INTS ENDE CONJ ARG RE IM LENG SHORTEN DIV MODS OD1 ISN'T STRUCTS PRAG COMM a begin int")
	for _, word := range texts {
		texts = append(texts, strings.ToLower(word), word+" ", " "+word, word+word, word+"\x00", word[1:], word[:len(word)-1])
	}
	for _, word := range append(texts, "", "\xff") {
		if got := indicants.Reserved(word); got != reserved[word] {
			t.Errorf("Reserved of %q is %t", word, got)
		}
		if got := indicants.Standard(word); got != level[word] {
			t.Errorf("Standard of %q is %d", word, got)
		}
		for _, kind := range []int{api.SymEnd, api.SymBold, api.SymTag, api.SymInt, api.SymReal, api.SymBits, api.SymString, api.SymFormat, api.SymSign, -1, 9, math.MinInt, math.MaxInt} {
			want := kind == api.SymBold && !reserved[word] || kind == api.SymSign && sign[word]
			for _, at := range []int{0, -1, 77} {
				if got := indicants.Operator(api.Symbol{Kind: kind, Text: word, At: at}); got != want {
					t.Errorf("Operator of %q with the kind %d is %t", word, kind, got)
				}
			}
		}
	}
}

// P6.2: what words mean, before and behind their declarations, in ranges around one another.
func TestMeanings(t *testing.T) {
	for _, c := range []struct{ text, want string }{
		{"", ""}, {"A", "."}, {"A + a := 3 // OR INT ~ I $ +", ".6....2..9.."}, {"= /= < + * ** +* & +:= MOD UP", "44567893178"},
		{"A ; MODE A = INT ; A", "m..m4..m"}, {"A ; PRIO A = 3 ; A", "3..34..3"}, {"A ; OP A = x ; A", "....4..."}, {"+ ; OP + = x ; +", "6..64..6"}, {"+ ; PRIO + = 1 ; +", "1..14..1"}, {"= ; PRIO = = 9 ; =", "9..99..9"}, {"MOD ; OP MOD = x ; MOD", "7..74..7"}, {"MOD ; MODE MOD = x ; MOD", "m..m4..m"},
		// In inner ranges.
		{"MODE A = x ; ( A )", ".m4...m."}, {"( MODE A = x ) A", "..m4..."}, {"PRIO A = 2 ; ( A ( A ) )", ".24...2.2.."}, {"( A ) ; MODE A = x", ".m...m4."},
		{"MODE A = x ; ( A ; OP A = y ) A", ".m4.......4..m"}, {"MODE A = x ; ( A ; PRIO A = 5 ) A", ".m4...5..54..m"}, {"OP A = x ; ( A ; MODE A = y ) A", "..4...m..m4..."}, {"PRIO A = 7 ; ( A ; MODE A = y ) A", ".74...m..m4..7"}, {"PRIO A = 7 ; ( A ; PRIO A = 1 ; ( A ) ) A", ".74...1..14...1..7"}, {"MODE A = x ; ( PRIO B = 1 ; A )", ".m4....14..m."},
		// OP alone declares no priority, but it is an operator; the priority is that of the innermost range that declares one.
		{"PRIO A = 7 ; ( A ; OP A = y )", ".74...7..74.."}, {"PRIO A = 7 ; ( MODE A = x ; ( OP A = y ; A ) )", ".74....m4....74..7.."}, {"MODE A = x ; ( OP A = y ; ( PRIO A = 3 ; A ) ; A )", ".m4.....4....34..3...."}, {"( MODE OR = x ; ( OP OR = y ; a OR b ) )", "..m4....24...2..."}, {"PRIO + = 2 ; ( OP + = y ; a + b )", ".24....24...2.."},
		// Another word, or another kind of symbol.
		{"MODE A = x ; a A B", ".m4...m."}, {"PRIO A = 3 ; a + B", ".34...6."},
		// Parts of groups: what an enquiry declares is known behind it, what another part declares in that part alone.
		{"IF MODE A = x ; A THEN A ELIF A THEN A ELSE A FI A", "..m4..m.m.m.m.m.."}, {"IF A THEN MODE A = x ; A ELIF A THEN A ELSE A FI A", "....m4..m........"}, {"IF A THEN A ELIF MODE A = x ; A THEN A ELIF A THEN A ELSE A FI A", "......m4..m.m.m.m.m.."},
		{"CASE PRIO A = 2 IN A OUSE A IN A OUT A ESAC A", "..24..2.2.2.2.."}, {"CASE A IN A OUSE PRIO A = 2 ; A IN A OUT A ESAC A", "......24..2.2.2.."}, {"CASE A IN A OUSE A IN A OUT MODE A = x ESAC", "..........m4.."},
		{"( MODE A = x | A |: A | A | A ) A", "..m4..m.m.m.m.."}, {"( A | A |: MODE A = x | A |: A | A | A ) A", "......m4..m.m.m.m.."}, {"( A | MODE A = x | A )", "....m4...."},
		{"IF MODE A = x THEN A ELIF OP A = y THEN A ELSE A FI", "..m4..m...4......"}, {"( MODE A = x | PRIO A = 1 |: A | A )", "..m4...14..m.m."},
		// Loops.
		{"WHILE MODE A = x ; A DO A OD A", "..m4..m.m.."}, {"WHILE A DO MODE A = x ; A OD A", "....m4..m.."}, {"A WHILE A DO A OD MODE A = x", "m.m.m..m4."}, {"WHILE MODE A = x DO A OD DO A OD", "..m4..m...."}, {"MODE A = x WHILE OP A = y DO A OD A", ".m4....4....m"}, {"WHILE PRIO A = 2 WHILE A DO A OD A DO A OD", "..24..2.2....."}, {"a [ WHILE MODE A = x ; A DO A OD ] A", "....m4..m.m..."},
		// What is in [ ] stands in the range around.
		{"MODE A = x ; [ A ]", ".m4...m."}, {"( MODE A = x ; [ A ] ) [ A ]", "..m4...m....."}, {"[ MODE A = x ] A", "...4..."},
		{"MODE B = INT , C = REF B ; B C", ".m4..m4.m.mm"}, {"OP + = x , A = y ; PRIO A = 2 , B = 3 ; a A b B c +", ".64..24...24..34...2.3.6"},
	} {
		l := list(c.text)
		table, f := indicants.Find(l)
		if got := meanings(table, l); got != c.want || f.Code != api.OK {
			t.Errorf("the words of %s mean %s with the fault %d, not %s", c.text, got, f, c.want)
		}
	}
}

// P6.2: a symbol of another kind that has the text of a mode indicant or an operator means nothing.
func TestMeaningsOfOtherKinds(t *testing.T) {
	for _, kind := range []int{api.SymTag, api.SymInt, api.SymReal, api.SymBits, api.SymString, api.SymFormat, -1, 9, math.MinInt, math.MaxInt} {
		l := list("MODE A = x ; PRIO B = 2 ; A B + A B +")
		for i := len(l) - 3; i < len(l); i++ {
			l[i].Kind = kind
		}
		table, f := indicants.Find(l)
		if got := meanings(table, l); got != ".m4...24..m26..." || f.Code != api.OK {
			t.Errorf("with the kind %d the words mean %s", kind, got)
		}
	}
	l := list("MODE A = x ; A") // a sign with the text of a word is none
	l[5].Kind = api.SymSign
	table, _ := indicants.Find(l)
	if got := meanings(table, l); got != ".m4..." {
		t.Errorf("the words mean %s", got)
	}
}

// P6.2: Mode and Level at what is no index of a symbol before the end.
func TestIndices(t *testing.T) {
	for _, text := range []string{"", "$", "MODE A = x ; A + B", "MODE A = x ; A + $ A + A + A +", "$ A + A +", "MODE A = x $ PRIO B = 2 ; A B"} {
		l := list(text)
		table, f := indicants.Find(l)
		end := len(table.At)
		for _, i := range []int{-1, -2, -100, math.MinInt, end, end + 1, end + 2, end + 3, end + 4, len(l) - 1, len(l), len(l) + 1, math.MaxInt} {
			if (i < 0 || i >= end) && (table.Mode(l, i) || table.Level(l, i) != 0) || f.Code != api.OK {
				t.Errorf("of %s the symbol %d means something", text, i)
			}
		}
	}
}
