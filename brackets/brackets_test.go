package brackets_test

import (
	"math"
	"math/rand/v2"
	"strconv"
	"strings"
	"testing"

	"environ/api"
	"environ/brackets"
)

// source gives numbers that look like random ones, the same ones in each run.
func source() *rand.Rand { return rand.New(rand.NewPCG(5, 1968)) }

// many returns a text n times, with blanks behind it.
func many(n int, s string) string { return strings.Repeat(s+" ", n) }

// place is At of the symbol with an index in the lists of these tests.
func place(i int) int { return 1000 - 7*i }

// symbol returns the symbol that a word says: a bold word, a tag, a sign, or with $ the end.
func symbol(word string, at int) api.Symbol {
	kind := api.SymSign
	switch c := word[0]; {
	case c == '$':
		return api.Symbol{At: at}
	case 'A' <= c && c <= 'Z':
		kind = api.SymBold
	case 'a' <= c && c <= 'z':
		kind = api.SymTag
	}
	return api.Symbol{Kind: kind, Text: word, At: at}
}

// list returns the symbols that words with blanks between them say.
func list(text string) []api.Symbol {
	var l []api.Symbol
	for i, word := range strings.Fields(text) {
		l = append(l, symbol(word, place(i)))
	}
	return l
}

// show returns a group as a text: From, |Seps, {Kids}, To.
func show(g brackets.Group) string {
	s := strconv.Itoa(g.From)
	for _, x := range g.Seps {
		s += " |" + strconv.Itoa(x)
	}
	for _, k := range g.Kids {
		s += " {" + show(k) + "}"
	}
	return s + " " + strconv.Itoa(g.To)
}

// words returns symbols as a text.
func words(l []api.Symbol) string {
	s := ""
	for _, x := range l {
		s += strconv.Itoa(x.Kind) + x.Text + " "
	}
	if len(s) > 300 {
		return s[:300] + ".."
	}
	return s
}

// nothing is what Skeleton returns with a fault.
const nothing = "0 0"

func expectSkeleton(t *testing.T, l []api.Symbol, want string) {
	t.Helper()
	g, f := brackets.Skeleton(l)
	if show(g) != want || f != (api.Fault{}) {
		t.Errorf("Skeleton of %s is %s with the fault %d, not %s", words(l), show(g), f, want)
	}
}

func expectFault(t *testing.T, l []api.Symbol, want api.Fault) {
	t.Helper()
	g, f := brackets.Skeleton(l)
	if show(g) != nothing || f != want {
		t.Errorf("Skeleton of %s is %s with the fault %d, not %d", words(l), show(g), f, want)
	}
}

// P5.1: lists that have a skeleton, among them the chapter's.
func TestSkeleton(t *testing.T) {
	for _, c := range []struct{ text, want string }{
		{"", "-1 0"}, {"$", "-1 0"}, {"a", "-1 1"}, {"a $", "-1 1"}, {"a b , ; := $", "-1 5"},
		{"IF a THEN ( b | c ) ELSE [ d ] FI $", "-1 {0 |2 |8 {3 |5 7} {9 11} 12} 13"},
		{"IF a THEN ( b | c ) ELSE [ d ] FI", "-1 {0 |2 |8 {3 |5 7} {9 11} 12} 13"},
		{"BEGIN END", "-1 {0 1} 2"}, {"BEGIN a ; b END $", "-1 {0 4} 5"},
		{"[ ]", "-1 {0 1} 2"}, {"[ a , b : c ]", "-1 {0 6} 7"},
		{"DO OD", "-1 {0 1} 2"}, {"FOR i TO n WHILE a DO b OD", "-1 {6 8} 9"},
		{"( )", "-1 {0 1} 2"}, {"( a )", "-1 {0 2} 3"}, {"( | )", "-1 {0 |1 2} 3"}, {"( a | b )", "-1 {0 |2 4} 5"},
		{"( | | )", "-1 {0 |1 |2 3} 4"}, {"( a | b | c )", "-1 {0 |2 |4 6} 7"},
		{"( | |: | )", "-1 {0 |1 |2 |3 4} 5"}, {"( | |: | | )", "-1 {0 |1 |2 |3 |4 5} 6"},
		{"( a | b |: c | d |: e | f | g )", "-1 {0 |2 |4 |6 |8 |10 |12 14} 15"},
		{"IF THEN FI", "-1 {0 |1 2} 3"}, {"IF THEN ELSE FI", "-1 {0 |1 |2 3} 4"},
		{"IF THEN ELIF THEN FI", "-1 {0 |1 |2 |3 4} 5"}, {"IF a THEN b ELIF c THEN d ELIF e THEN f ELSE g FI", "-1 {0 |2 |4 |6 |8 |10 |12 14} 15"},
		{"CASE IN ESAC", "-1 {0 |1 2} 3"}, {"CASE IN OUT ESAC", "-1 {0 |1 |2 3} 4"},
		{"CASE IN OUSE IN ESAC", "-1 {0 |1 |2 |3 4} 5"}, {"CASE a IN b OUSE c IN d OUSE e IN f OUT g ESAC", "-1 {0 |2 |4 |6 |8 |10 |12 14} 15"},
		{"( ) [ ] BEGIN END DO OD", "-1 {0 1} {2 3} {4 5} {6 7} 8"},
		{"( [ BEGIN DO IF CASE IN ESAC THEN FI OD END ] )", "-1 {0 {1 {2 {3 {4 |8 {5 |6 7} 9} 10} 11} 12} 13} 14"},
		{"IF ( | ) THEN ( | | ) ELIF [ ] THEN ELSE ( ) ( ) FI", "-1 {0 |4 |9 |12 |13 {1 |2 3} {5 |6 |7 8} {10 11} {14 15} {16 17} 18} 19"},
		{"( IF THEN FI | CASE IN ESAC |: ( ) | [ ] | DO OD )", "-1 {0 |4 |8 |11 |14 {1 |2 3} {5 |6 7} {9 10} {12 13} {15 16} 17} 18"},
	} {
		expectSkeleton(t, list(c.text), c.want)
	}
}

// P5.1: what stands behind the first SymEnd means nothing, whatever it is.
func TestBehindTheEnd(t *testing.T) {
	for _, behind := range []string{"$", ")", "(", "a", "] $ )", "THEN", "$ $ |", "BEGIN END", many(100, "(")} {
		expectSkeleton(t, list("$ "+behind), "-1 0")
		expectSkeleton(t, list("( | a ) $ "+behind), "-1 {0 |1 3} 4")
		expectFault(t, list("( $ "+behind), api.Fault{At: place(1), Code: api.ErrEnd})
		expectFault(t, list("( ] $ "+behind), api.Fault{At: place(1), Code: api.ErrSyntax})
	}
	// The Text of a SymEnd is not looked at.
	expectSkeleton(t, []api.Symbol{symbol("(", 5), symbol(")", 6), {Text: "(", At: 7}, symbol(")", 8)}, "-1 {0 1} 2")
	expectFault(t, []api.Symbol{symbol("(", 5), {Text: ")", At: 7}, symbol(")", 8)}, api.Fault{At: 7, Code: api.ErrEnd})
}

// P5.1: the chapter's faults, and others; At is given as the index of the symbol.
func TestFirstFault(t *testing.T) {
	for _, c := range []struct {
		text string
		at   int
		code api.Errno
	}{
		{"( a | b |: c )", 6, api.ErrSyntax}, {"BEGIN ( END $", 2, api.ErrSyntax}, {"BEGIN ( $", 2, api.ErrEnd},
		{"IF FI", 1, api.ErrSyntax}, {"IF a FI $", 2, api.ErrSyntax}, {"IF THEN ELIF FI", 3, api.ErrSyntax}, {"IF ELSE FI", 1, api.ErrSyntax}, {"IF THEN ELIF ELSE FI", 3, api.ErrSyntax},
		{"CASE ESAC", 1, api.ErrSyntax}, {"CASE IN OUSE ESAC", 3, api.ErrSyntax}, {"CASE OUT ESAC", 1, api.ErrSyntax}, {"CASE IN OUSE OUT ESAC", 3, api.ErrSyntax},
		{"IF THEN ELSE ELSE FI", 3, api.ErrSyntax}, {"IF THEN ELSE ELIF THEN FI", 3, api.ErrSyntax}, {"IF THEN ELSE THEN FI", 3, api.ErrSyntax}, {"IF THEN THEN FI", 2, api.ErrSyntax},
		{"CASE IN OUT OUT ESAC", 3, api.ErrSyntax}, {"CASE IN OUT OUSE IN ESAC", 3, api.ErrSyntax}, {"CASE IN IN ESAC", 2, api.ErrSyntax},
		{"( |: | )", 1, api.ErrSyntax}, {"( | |: )", 3, api.ErrSyntax}, {"( | | | )", 3, api.ErrSyntax}, {"( | | |: | )", 3, api.ErrSyntax}, {"( | |: |: | )", 3, api.ErrSyntax}, {"( | |: | | | )", 5, api.ErrSyntax},
		{")", 0, api.ErrSyntax}, {"a ] $", 1, api.ErrSyntax}, {"( ) )", 2, api.ErrSyntax}, {"THEN", 0, api.ErrSyntax}, {"a | b", 1, api.ErrSyntax},
		{"( ]", 1, api.ErrSyntax}, {"[ )", 1, api.ErrSyntax}, {"( [ ) ]", 2, api.ErrSyntax}, {"IF THEN ESAC", 2, api.ErrSyntax}, {"CASE IN FI", 2, api.ErrSyntax}, {"DO END", 1, api.ErrSyntax}, {"BEGIN OD", 1, api.ErrSyntax}, {"BEGIN )", 1, api.ErrSyntax}, {"( END", 1, api.ErrSyntax},
		{"IF ( THEN ) FI", 2, api.ErrSyntax}, {"IF THEN DO ELSE OD FI", 3, api.ErrSyntax}, {"( [ | ] )", 2, api.ErrSyntax},
		{"( $", 1, api.ErrEnd}, {"IF $", 1, api.ErrEnd}, {"a CASE b IN c $ ESAC", 5, api.ErrEnd}, {"( ( ) [ ] $", 5, api.ErrEnd}, {"( a | b |: $", 5, api.ErrEnd},
		{") ) ] $", 0, api.ErrSyntax}, {"IF ELSE ) ELIF", 1, api.ErrSyntax}, {"( ] ( [ $", 1, api.ErrSyntax},
	} {
		expectFault(t, list(c.text), api.Fault{At: place(c.at), Code: c.code})
	}
	for _, text := range []string{"(", "BEGIN", "BEGIN (", "[ ] [", "DO a", "IF a THEN", "CASE a IN b OUSE", "( a | b"} {
		expectFault(t, list(text), api.Fault{Code: api.ErrEnd})
	}
}

// contexts are beginnings of lists, and which words of the second and the third column may follow.
var contexts = []struct{ text, may string }{
	{"", ""}, {"a", ""}, {"( )", ""}, {"IF THEN FI", ""},
	{"BEGIN", "END"}, {"[", "]"}, {"DO", "OD"}, {"IF", "THEN"}, {"CASE", "IN"}, {"(", "| )"},
	{"IF THEN", "ELIF ELSE FI"}, {"IF THEN ELIF", "THEN"}, {"IF THEN ELIF THEN", "ELIF ELSE FI"}, {"IF THEN ELIF THEN ELIF", "THEN"},
	{"IF THEN ELSE", "FI"}, {"IF THEN ELIF THEN ELSE", "FI"},
	{"CASE IN", "OUSE OUT ESAC"}, {"CASE IN OUSE", "IN"}, {"CASE IN OUSE IN", "OUSE OUT ESAC"}, {"CASE IN OUSE IN OUSE", "IN"},
	{"CASE IN OUT", "ESAC"}, {"CASE IN OUSE IN OUT", "ESAC"},
	{"( |", "|: | )"}, {"( | |:", "|"}, {"( | |: |", "|: | )"}, {"( | |: | |:", "|"}, {"( | |", ")"}, {"( | |: | |", ")"},
}

// P5.1: each word of the second and the third column in each context, with and without other symbols, groups, and a group around.
func TestEachWordInEachContext(t *testing.T) {
	arounds := []struct{ text, may string }{{"", ""}, {"BEGIN", "END"}, {"IF THEN", "ELIF ELSE FI"}, {"( |", "|: | )"}}
	for _, c := range contexts {
		for _, around := range arounds {
			may := c.may
			if may == "" {
				may = around.may
			}
			for _, word := range strings.Fields("THEN ELIF ELSE IN OUSE OUT | |: END ] OD FI ESAC )") {
				for _, between := range []string{"", "a ;", "( | )", "IF THEN ELSE FI b"} {
					l := list(around.text + " " + c.text + " " + between + " " + word + " $")
					_, f := brackets.Skeleton(l)
					if !strings.Contains(" "+may+" ", " "+word+" ") {
						expectFault(t, l, api.Fault{At: l[len(l)-2].At, Code: api.ErrSyntax})
					} else if f.Code != api.OK && f != (api.Fault{At: l[len(l)-1].At, Code: api.ErrEnd}) {
						t.Errorf("Skeleton of %s has the fault %d", words(l), f)
					}
				}
			}
		}
	}
}

const bracketWords = "BEGIN [ DO IF CASE ( END ] OD FI ESAC ) THEN ELIF ELSE IN OUSE OUT | |:"

// P5.1: a symbol with the Text of a bracket and another Kind is none, and neither is one with a Kind of brackets and another Text.
func TestOtherSymbols(t *testing.T) {
	var l []api.Symbol
	for _, word := range strings.Fields(bracketWords) {
		for _, kind := range []int{api.SymBold, api.SymTag, api.SymInt, api.SymReal, api.SymBits, api.SymString, api.SymFormat, api.SymSign, -1, 9, 100, math.MinInt, math.MaxInt} {
			if x := symbol(word, 0); kind != x.Kind {
				l = append(l, api.Symbol{Kind: kind, Text: word})
			}
		}
		for _, text := range []string{"", " ", word + " ", " " + word, word + word, strings.ToLower(word) + "x", "\x00" + word, "begin", "fi", "||", "|:|", ":|", "{", "}", "<", "IFF", "I", "F", "CO"} {
			l = append(l, api.Symbol{Kind: api.SymBold, Text: text}, api.Symbol{Kind: api.SymSign, Text: text})
		}
	}
	n := len(l)
	expectSkeleton(t, l, "-1 "+strconv.Itoa(n))
	for _, c := range contexts {
		may := strings.Fields("a " + c.may)
		back := list(may[len(may)-1])
		want, f := brackets.Skeleton(append(list(c.text), back...))
		if f.Code != api.OK {
			continue
		}
		want.To += n
		if c.may != "" {
			want.Kids[0].To += n
		}
		expectSkeleton(t, append(append(list(c.text), l...), back...), show(want))
	}
}

// P5.1: 64 brackets may be nested in one another, of each kind; the 65th is ErrLimit.
func TestNesting(t *testing.T) {
	for _, c := range []struct {
		open, closed string
		n            int // how many groups there are in open
	}{
		{"(", ")", 1}, {"[", "]", 1}, {"BEGIN", "END", 1}, {"DO", "OD", 1}, {"IF", "THEN FI", 1}, {"IF THEN ELIF THEN", "ELSE FI", 1}, {"CASE IN", "ESAC", 1}, {"( | |: |", ")", 1},
		{"( [", "] )", 2}, {"BEGIN DO ( IF", "THEN FI ) OD END", 4},
	} {
		length := len(strings.Fields(c.open))
		at64, at65 := many(64/c.n, c.open), many(64/c.n, c.open)+"("
		back := many(64/c.n, c.closed)
		for _, text := range []string{at64 + back, at64 + "a " + back + " $", "( ) " + at64 + back + at64 + back} {
			g, f := brackets.Skeleton(list(text))
			if f != (api.Fault{}) || brackets.Depth(g) != 64 || !brackets.Check(g, list(text)) {
				t.Errorf("64 times %s: the fault %d, the depth %d", c.open, f, brackets.Depth(g))
			}
		}
		want := api.Fault{At: place(64 / c.n * length), Code: api.ErrLimit}
		for _, behind := range []string{"", " )" + back, " ]", " $", " (", " a"} {
			expectFault(t, list(at65+behind), want)
		}
		for _, word := range strings.Fields("BEGIN [ DO IF CASE") {
			expectFault(t, list(at64+word+" $"), want)
		}
	}
	expectFault(t, list("] "+many(65, "(")), api.Fault{At: place(0), Code: api.ErrSyntax})
	expectFault(t, list(many(64, "(")+"] ("), api.Fault{At: place(64), Code: api.ErrSyntax})
	expectFault(t, list(many(64, "(")+") ( ("), api.Fault{At: place(66), Code: api.ErrLimit})
	expectSkeleton(t, list(many(3, "( )")), "-1 {0 1} {2 3} {4 5} 6")
}

// P5.1: At of a fault is that of its symbol, whatever it is.
func TestAnyAt(t *testing.T) {
	for _, at := range []int{0, 1, -1, 17, math.MinInt, math.MaxInt} {
		for _, other := range []int{0, at, 3, math.MinInt} {
			expectFault(t, []api.Symbol{symbol("(", other), symbol("]", at), symbol("]", other)}, api.Fault{At: at, Code: api.ErrSyntax})
			expectFault(t, []api.Symbol{symbol("(", other), symbol("$", at), symbol("$", other)}, api.Fault{At: at, Code: api.ErrEnd})
			expectFault(t, []api.Symbol{symbol("(", at), symbol("a", at)}, api.Fault{Code: api.ErrEnd})
			l := list(many(66, "["))
			l[63].At, l[64].At, l[65].At = other, at, other
			expectFault(t, l, api.Fault{At: at, Code: api.ErrLimit})
		}
	}
}

// P5.2: Match at each index, and where there is none.
func TestMatch(t *testing.T) {
	for _, c := range []struct {
		text string
		want []int
	}{
		{"", nil}, {"$", nil}, {"a b", []int{0, 1}}, {"( ) $", []int{1, 0}}, {"a ( | b ) $ (", []int{0, 4, 2, 3, 1}},
		{"IF a THEN ( b | c ) ELSE [ d ] FI $ a b", []int{12, 1, 2, 7, 4, 5, 6, 3, 8, 11, 10, 9, 0}},
		{"( ( ) a [ BEGIN END ] b ) c DO OD", []int{9, 2, 1, 3, 7, 6, 5, 4, 8, 0, 10, 12, 11}},
		{"CASE IN OUSE IN OUT ESAC ( )", []int{5, 1, 2, 3, 4, 0, 7, 6}},
	} {
		l := list(c.text)
		for i, want := range c.want {
			if n, f := brackets.Match(l, i); n != want || f != (api.Fault{}) {
				t.Errorf("Match of %s at %d is %d with the fault %d, not %d", c.text, i, n, f, want)
			}
		}
		end := len(c.want)
		for _, i := range []int{-1, -2, math.MinInt, end, end + 1, end + 2, end + 3, math.MaxInt} {
			if n, f := brackets.Match(l, i); n != 0 || f != (api.Fault{Code: api.ErrRange}) {
				t.Errorf("Match of %s at %d is %d with the fault %d", c.text, i, n, f)
			}
		}
	}
}

// P5.2: the fault of Skeleton comes before ErrRange.
func TestMatchFaults(t *testing.T) {
	for _, text := range []string{"(", "( $", "] $", "( ) a ] b", "IF FI", many(65, "("), "( ] $ )"} {
		l := list(text)
		_, want := brackets.Skeleton(l)
		for _, i := range []int{math.MinInt, -1, 0, 1, 2, len(l) - 1, len(l), math.MaxInt} {
			if n, f := brackets.Match(l, i); n != 0 || f != want || f.Code == api.OK {
				t.Errorf("Match of %s at %d is %d with the fault %d, not %d", words(l), i, n, f, want)
			}
		}
	}
}

// P5.2: Depth of skeletons, and of any groups.
func TestDepth(t *testing.T) {
	for _, c := range []struct {
		text string
		want int
	}{
		{"", 0}, {"a b $", 0}, {"( )", 1}, {"( ) [ ] ( | )", 1}, {"( [ ] ) ( )", 2}, {"( ) ( [ ( ) ] ) ( [ ] )", 3}, {"IF ( ) THEN [ ( ) ] FI", 3},
	} {
		g, _ := brackets.Skeleton(list(c.text))
		if n := brackets.Depth(g); n != c.want {
			t.Errorf("Depth of %s is %d, not %d", c.text, n, c.want)
		}
	}
	leaf := brackets.Group{From: 9, To: -9, Seps: []int{5, 5, 1}}
	one := brackets.Group{Kids: []brackets.Group{leaf, leaf}}
	deep := brackets.Group{}
	for range 1 << 16 {
		deep = brackets.Group{Kids: []brackets.Group{{}, deep, leaf}}
	}
	for i, c := range []struct {
		g    brackets.Group
		want int
	}{
		{brackets.Group{}, 0}, {leaf, 0}, {brackets.Group{Kids: []brackets.Group{}}, 0}, {one, 1},
		{brackets.Group{From: 3, Kids: []brackets.Group{leaf, one, leaf}}, 2}, {brackets.Group{Kids: []brackets.Group{one, {Kids: []brackets.Group{one}}, {}}}, 3}, {deep, 1 << 16},
	} {
		if n := brackets.Depth(c.g); n != c.want {
			t.Errorf("Depth of the group %d is %d, not %d", i, n, c.want)
		}
	}
}

// P5.2: Parts of groups of skeletons, and of any groups.
func TestParts(t *testing.T) {
	for _, c := range []struct {
		g    brackets.Group
		want [][2]int
	}{
		{brackets.Group{From: 0, To: 12, Seps: []int{2, 8}, Kids: []brackets.Group{{From: 3, To: 7, Seps: []int{5}}, {From: 9, To: 11}}}, [][2]int{{1, 2}, {3, 8}, {9, 12}}},
		{brackets.Group{From: -1, To: 0}, [][2]int{{0, 0}}}, {brackets.Group{From: -1, To: 13, Seps: []int{}}, [][2]int{{0, 13}}}, {brackets.Group{From: 4, To: 5}, [][2]int{{5, 5}}},
		{brackets.Group{From: 4, To: 6, Seps: []int{5}}, [][2]int{{5, 5}, {6, 6}}}, {brackets.Group{From: 3, To: 7, Seps: []int{4, 5, 6}}, [][2]int{{4, 4}, {5, 5}, {6, 6}, {7, 7}}},
		{brackets.Group{}, [][2]int{{1, 0}}}, {brackets.Group{From: 9, To: -5, Seps: []int{-7, 20, 20, 3}}, [][2]int{{10, -7}, {-6, 20}, {21, 20}, {21, 3}, {4, -5}}},
		{brackets.Group{From: math.MinInt, To: math.MaxInt, Seps: []int{math.MaxInt - 1}}, [][2]int{{math.MinInt + 1, math.MaxInt - 1}, {math.MaxInt, math.MaxInt}}},
	} {
		got := brackets.Parts(c.g)
		same := len(got) == len(c.want)
		for i := 0; same && i < len(got); i++ {
			same = got[i] == c.want[i]
		}
		if !same {
			t.Errorf("Parts of %s are %d, not %d", show(c.g), got, c.want)
		}
	}
	// An index that has none behind it is no panic.
	brackets.Parts(brackets.Group{From: math.MaxInt, To: math.MinInt, Seps: []int{math.MaxInt, math.MinInt}})
}
