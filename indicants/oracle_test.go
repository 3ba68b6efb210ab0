package indicants_test

import (
	"cmp"
	"math/rand/v2"
	"regexp"
	"slices"
	"strings"
	"testing"

	"environ/api"
	"environ/brackets"
	"environ/indicants"
)

// The oracle asks each question of one symbol alone: it looks to the left and to the right of it for what encloses it, again and again, and finds declarations by patterns in the text of a range's level.

// oracle answers questions about a list that has a skeleton and no end.
type oracle struct {
	l     []api.Symbol
	at    int    // At of the end
	homes []span // answers of home for brackets' groups and other symbols
	// Answers of saidIn.
	known map[span][]said
}

// ask returns an oracle for the symbols of a list that has a skeleton, up to its end.
func ask(l []api.Symbol) oracle {
	g, _ := brackets.Skeleton(l)
	o := oracle{l: l[:g.To], known: map[span][]said{}}
	if g.To < len(l) {
		o.at = l[g.To].At
	}
	for i := range o.l {
		o.homes = append(o.homes, o.home(o.bracket(i)))
	}
	for _, s := range o.spans() {
		o.known[s] = o.saidIn(s)
	}
	return o
}

// has reports whether a symbol is one of some words or signs.
func (o oracle) has(i int, texts string) bool {
	x := o.l[i]
	return x.Kind == symbol(x.Text+"?", 0).Kind && x.Text != "" && strings.Contains(" "+texts+" ", " "+x.Text+" ")
}

const (
	openTexts  = "BEGIN [ DO IF CASE ("
	closeTexts = "END ] OD FI ESAC )"
	partTexts  = "THEN ELIF ELSE IN OUSE OUT | |:"
)

// left returns the indices of the symbols of the level of a symbol that stand to the left of it in its part, from right to left, and the bracket or separator in front of them, or -1. Of groups only the two brackets are among them.
func (o oracle) left(i int) ([]int, int) {
	var level []int
	depth := 0
	for j := i - 1; j >= 0; j-- {
		switch {
		case o.has(j, closeTexts):
			if depth == 0 {
				level = append(level, j)
			}
			depth++
		case o.has(j, openTexts):
			if depth == 0 {
				return level, j
			}
			depth--
			if depth == 0 {
				level = append(level, j)
			}
		case depth == 0 && o.has(j, partTexts):
			return level, j
		case depth == 0:
			level = append(level, j)
		}
	}
	return level, -1
}

// right returns the index of the first symbol from an index on at its level that is one of some words, or of what ends the part. What begins at the index itself may be a group.
func (o oracle) right(i int, texts string) int {
	depth := 0
	for j := i; j < len(o.l); j++ {
		switch {
		case depth == 0 && (o.has(j, closeTexts) || o.has(j, partTexts) || o.has(j, texts)):
			return j
		case o.has(j, openTexts):
			depth++
		case o.has(j, closeTexts):
			depth--
		}
	}
	return len(o.l)
}

// span is a range, by the indices of its first symbol and that behind its last one.
type span struct{ from, to int }

// opening returns the index of the opening bracket of the group to whose level a bracket or separator belongs, in front of a part.
func (o oracle) opening(i int) int {
	for !o.has(i, openTexts) {
		_, i = o.left(i)
	}
	return i
}

// home returns the innermost range of a symbol that is no bracket but an opening one.
func (o oracle) home(i int) span {
	level, front := o.left(i)
	if w, ok := o.while(i, level); ok {
		return span{w, o.right(w, "DO")}
	}
	return o.part(front)
}

// part returns the range in which stands what is at the level behind an opening bracket or a separator, or -1, but for those that begin with a WHILE of this level.
func (o oracle) part(front int) span {
	if front < 0 {
		return span{0, len(o.l)}
	}
	if o.has(front, "[") {
		return o.home(front)
	}
	return span{front + 1, o.right(front+1, "")}
}

// while returns the index of the WHILE in whose range a symbol stands that has some symbols to the left of it; and whether there is one.
func (o oracle) while(i int, left []int) (int, bool) {
	first := -1
	for _, j := range append([]int{i}, left...) {
		if o.has(j, "DO OD") {
			break
		}
		if o.has(j, "WHILE") {
			first = j
		}
	}
	if first < 0 {
		return 0, false
	}
	do := o.right(first, "DO")
	return first, do < len(o.l) && o.has(do, "DO")
}

// opened returns the index of the opening bracket of the group that a closing bracket ends.
func (o oracle) opened(i int) int {
	_, front := o.left(i)
	return o.opening(front)
}

// bracket returns the index of the opening bracket of the group to which a bracket or separator belongs, or the index itself.
func (o oracle) bracket(i int) int {
	if o.has(i, closeTexts) || o.has(i, partTexts) {
		return o.opened(i)
	}
	return i
}

// of returns the innermost range of a symbol.
func (o oracle) of(i int) span { return o.homes[i] }

// around returns the range around a range, and whether there is one.
func (o oracle) around(s span) (span, bool) {
	if s.from < s.to && o.has(s.from, "WHILE") && s.to < len(o.l) && o.has(s.to, "DO") {
		// It is that of its WHILE if no range began with it.
		return o.base(s.from), true
	}
	front := s.from - 1
	if front < 0 {
		return span{}, false
	}
	for o.has(front, "THEN ELSE IN OUT |") {
		_, enquiry := o.left(front)
		s := span{enquiry + 1, front}
		// Behind THEN the enquiry is the part in front of it, behind ELSE one further to the left.
		if o.has(enquiry, openTexts) || o.has(enquiry, "ELIF OUSE |:") {
			return s, true
		}
		front = enquiry
	}
	if o.has(front, "ELIF OUSE |:") {
		// In front of it stands a part that is no enquiry; what is around that one is around this one.
		_, then := o.left(front)
		return o.around(span{then + 1, front})
	}
	if o.has(front, "DO") {
		level, _ := o.left(front)
		if n := slices.IndexFunc(level, func(j int) bool { return o.has(j, "WHILE OD") }); n >= 0 && o.has(level[n], "WHILE") {
			return o.home(level[n]), true
		}
	}
	return o.home(front), true
}

// base returns the innermost range of a symbol but for those that begin with a WHILE of its level.
func (o oracle) base(i int) span {
	_, front := o.left(i)
	return o.part(front)
}

// spans returns all ranges, in order.
func (o oracle) spans() []span {
	all := []span{{0, len(o.l)}}
	for i := range o.l {
		if (o.has(i, openTexts) || o.has(i, partTexts)) && !o.has(i, "[") {
			all = append(all, span{i + 1, o.right(i+1, "")})
		}
		if o.has(i, "WHILE") && o.of(i).from == i && o.of(i) != o.base(i) {
			all = append(all, o.of(i))
		}
	}
	return all
}

// token returns a symbol as a letter of the patterns.
func (o oracle) token(i int) string {
	switch x := o.l[i]; {
	case o.has(i, "MODE"):
		return "M"
	case o.has(i, "PRIO"):
		return "P"
	case o.has(i, "OP"):
		return "O"
	case o.has(i, "; EXIT"):
		return ";"
	case o.has(i, ", ="):
		return x.Text
	case indicants.Operator(x) && x.Kind == api.SymBold:
		return "w"
	case indicants.Operator(x):
		return "o"
	case x.Kind == api.SymInt:
		return "1"
	}
	return "."
}

// levelOf returns the tokens of the level of a range, and their indices.
func (o oracle) levelOf(s span) (string, []int) {
	text := ""
	var places []int
	for i := s.from; i < s.to; i++ {
		if o.of(i) != s {
			continue
		}
		// In [ ]: on the way out there is one before the range ends.
		b := o.bracket(i)
		if _, front := o.left(b); front >= s.from && o.has(front, "[") {
			continue
		}
		text += o.token(i)
		places = append(places, i)
	}
	return text, places
}

// said is a declaration that a range has: its kind is M, P or O.
type said struct {
	kind byte
	at   int // the index of the word
}

var (
	starts   = regexp.MustCompile(`M(w)=|P([wo=])=1|O([wo=])=`)
	noNumber = regexp.MustCompile(`^P[wo=]=([^1]|$)`)
	goesOn   = map[byte]*regexp.Regexp{'M': regexp.MustCompile(`^w=`), 'P': regexp.MustCompile(`^[wo=]=1`), 'O': regexp.MustCompile(`^[wo=]=`)}
)

// saidIn returns the declarations of a range.
func (o oracle) saidIn(s span) []said {
	text, places := o.levelOf(s)
	var all []said
	for from := 0; from < len(text); {
		to := from + strings.IndexByte(text[from:]+";", ';')
		chunk := text[from:to]
		at := starts.FindAllStringIndex(chunk, -1)
		for n, m := range at {
			behind := len(chunk)
			if n+1 < len(at) {
				behind = at[n+1][0]
			}
			kind := chunk[m[0]]
			all = append(all, said{kind, places[from+m[0]+1]})
			place := m[0]
			for k, piece := range strings.Split(chunk[m[0]:behind], ",") {
				if k > 0 && !goesOn[kind].MatchString(chunk[place:]) {
					break
				}
				if k > 0 {
					all = append(all, said{kind, places[from+place]})
				}
				place += len(piece) + 1
			}
		}
		from = to + 1
	}
	return all
}

// symbolAt returns the symbol with an index, or the end.
func (o oracle) symbolAt(i int) api.Symbol {
	if i < len(o.l) {
		return o.l[i]
	}
	return api.Symbol{At: o.at}
}

// fault is a fault by the index of its symbol.
type fault struct {
	index int
	code  api.Errno
}

// faults returns all faults of a list, in the order of the text.
func (o oracle) faults() []fault {
	var all []fault
	for i := range o.l {
		text, places := o.levelOf(o.of(i))
		n := slices.Index(places, i)
		if n >= 0 && strings.Contains("MPO", text[n:n+1]) && !indicants.Operator(o.symbolAt(i+1)) {
			all = append(all, fault{i + 1, api.ErrName})
		}
		if n >= 0 && noNumber.MatchString(text[n:]) {
			all = append(all, fault{i + 3, api.ErrRange})
		}
	}
	for _, s := range o.spans() {
		declared := o.known[s]
		for n, d := range declared {
			x := o.symbolAt(d.at + 2)
			if d.kind == 'P' && (len(x.Text) != 1 || x.Text == "0") {
				all = append(all, fault{d.at + 2, api.ErrRange})
			}
			for _, e := range declared[:n] {
				kinds := string([]byte{e.kind, d.kind})
				if o.l[e.at].Text == o.l[d.at].Text && strings.Contains("MM PP MO OM MP PM", kinds) {
					all = append(all, fault{d.at, api.ErrTwice})
				}
			}
		}
	}
	slices.SortFunc(all, func(a, b fault) int { return cmp.Or(cmp.Compare(a.index, b.index), cmp.Compare(a.code, b.code)) })
	return all
}

// table returns what Find should.
func (o oracle) table() indicants.Table {
	var t indicants.Table
	spans := o.spans()
	for _, s := range spans {
		r := indicants.Range{From: s.from, To: s.to, Outer: -1}
		if outer, ok := o.around(s); ok {
			r.Outer = slices.Index(spans, outer)
		}
		if s == spans[0] {
			r.Outer = -1
		}
		for _, d := range o.known[s] {
			switch x := o.l[d.at]; d.kind {
			case 'M':
				r.Modes = append(r.Modes, x.Text)
			case 'O':
				r.Ops = append(r.Ops, x.Text)
			case 'P':
				r.Prios = append(r.Prios, indicants.Prio{Op: x.Text, Level: int(o.symbolAt(d.at + 2).Text[0] - '0')})
			}
		}
		t.Ranges = append(t.Ranges, r)
	}
	for i := range o.l {
		t.At = append(t.At, slices.Index(spans, o.of(i)))
	}
	return t
}

// wantFind returns what Find should return.
func wantFind(l []api.Symbol) (indicants.Table, api.Fault) {
	if _, f := brackets.Skeleton(l); f.Code != api.OK {
		return indicants.Table{}, f
	}
	o := ask(l)
	if all := o.faults(); len(all) > 0 {
		return indicants.Table{}, api.Fault{At: o.symbolAt(all[0].index).At, Code: all[0].code}
	}
	return o.table(), api.Fault{}
}

// wantMeanings returns what meanings should, by the spans around each symbol.
func wantMeanings(l []api.Symbol) string {
	o := ask(l)
	s := ""
	for i, x := range o.l {
		mode, level := 0, 0
		for r, ok := o.of(i), true; ok && indicants.Operator(x); r, ok = o.around(r) {
			for _, d := range o.known[r] {
				if o.l[d.at].Text != x.Text {
					continue
				}
				if mode == 0 {
					mode = 1 + strings.IndexByte("MPO", d.kind)
				}
				if level == 0 && d.kind == 'P' {
					level = int(o.l[d.at+2].Text[0] - '0')
				}
			}
		}
		if level == 0 && indicants.Operator(x) {
			level = indicants.Standard(x.Text)
		}
		switch {
		case mode == 1 && x.Kind == api.SymBold:
			s += "m"
		case level > 0:
			s += string(rune('0' + level))
		default:
			s += "."
		}
	}
	return s + strings.Repeat(".", len(l)-len(o.l))
}

// compare asks Find, Mode and Level about a list, and the oracle.
func compare(t *testing.T, l []api.Symbol) {
	t.Helper()
	got, f := indicants.Find(l)
	want, wantF := wantFind(l)
	if show(got) != show(want) || f != wantF {
		t.Errorf("Find of %s is %s with the fault %d, not %s with the fault %d", words(l), show(got), f, show(want), wantF)
	}
	if f.Code != api.OK || wantF.Code != api.OK {
		return
	}
	if got, want := meanings(got, l), wantMeanings(l); got != want {
		t.Errorf("the words of %s mean %s, not %s", words(l), got, want)
	}
}

// every calls see with all texts of at most n of some words.
func every(some []string, front string, n int, see func(text string)) {
	see(front)
	if n == 0 {
		return
	}
	for _, word := range some {
		every(some, front+word+" ", n-1, see)
	}
}

// P6.1, P6.2: all short lists of the words of declarations.
func TestShortDeclarations(t *testing.T) {
	every(strings.Fields("MODE PRIO OP A = , ; 1"), "", 4, func(text string) { compare(t, list(text)) })
	for _, front := range []string{"MODE A = ", "PRIO A = 1 ", "OP A = ", "OP + = "} {
		every(strings.Fields("MODE OP A B + = , ; 1 0 a"), front, 3, func(text string) { compare(t, list(text)) })
		every(strings.Fields("A + = , 1"), front+", ", 4, func(text string) { compare(t, list(text)) })
		every(strings.Fields("A B + = , ; 1 0 a"), front+"; PRIO ", 4, func(text string) { compare(t, list(text)) })
	}
}

// P6.1, P6.2: all short lists of brackets, WHILE and DO.
func TestShortNests(t *testing.T) {
	every(strings.Fields("( | |: ) [ ] WHILE DO OD A"), "", 4, func(text string) { compare(t, list(text)) })
	every(strings.Fields("( ) [ ] WHILE DO OD"), "WHILE ", 5, func(text string) { compare(t, list(text)) })
	every(strings.Fields("( ) | |:"), "( ", 6, func(text string) { compare(t, list(text)) })
	for _, front := range []string{"MODE A = x WHILE ", "( MODE A = x , ", "IF MODE A = x THEN "} {
		every(strings.Fields("( | ) WHILE DO OD FI , ; A"), front, 4, func(text string) { compare(t, list(text)) })
	}
}

// someText returns words of declarations, uses and groups, nested at most so deep.
func someText(random *rand.Rand, depth int) string {
	s := ""
	word := func() string {
		return strings.Fields("A B C MOD + =")[random.IntN(6)] + " "
	}
	for range random.IntN(6) {
		switch n := random.IntN(20); {
		case n < 6 && depth > 0:
			s += someGroup(random, depth-1)
		case n < 8:
			s += "MODE " + strings.Fields("A B C D")[random.IntN(4)] + " = "
		case n < 10:
			s += "PRIO " + word() + "= " + strings.Fields("1 2 7 9 0 10 a")[random.IntN(5+2*(random.IntN(9)/7))] + " "
		case n < 12:
			s += "OP " + word() + "= "
		case n < 14:
			s += ", " + word() + "= " + []string{"", "3 ", "8 "}[random.IntN(3)]
		case n < 15:
			s += "WHILE "
		case n < 17:
			s += []string{"; ", ", ", "EXIT ", ":= "}[random.IntN(4)]
		default:
			s += strings.Fields("A B C MOD + = a x 1")[random.IntN(9)] + " "
		}
	}
	return s
}

// someGroup returns a group with what is in it.
func someGroup(random *rand.Rand, depth int) string {
	in := func() string { return someText(random, depth) }
	switch random.IntN(7) {
	case 0:
		return "BEGIN " + in() + "END "
	case 1:
		return "[ " + in() + "] "
	case 2, 3:
		return "DO " + in() + "OD "
	case 4:
		return "( " + in() + ") "
	}
	w := [][]string{{"IF", "THEN", "ELIF", "ELSE", "FI"}, {"CASE", "IN", "OUSE", "OUT", "ESAC"}, {"(", "|", "|:", "|", ")"}}[random.IntN(3)]
	s := w[0] + " " + in() + w[1] + " " + in()
	for range random.IntN(3) {
		s += w[2] + " " + in() + w[1] + " " + in()
	}
	if random.IntN(2) == 0 {
		s += w[3] + " " + in()
	}
	return s + w[4] + " "
}

// P6.1, P6.2: lists put together at random.
func TestRandomLists(t *testing.T) {
	random := source()
	good := 0
	for range 6000 {
		l := list(someText(random, random.IntN(4)))
		if len(l) > 50 {
			continue
		}
		if random.IntN(2) == 0 {
			l = append(l, symbol("$", random.IntN(100)), symbol("MODE", 0))
		}
		if random.IntN(20) == 0 && len(l) > 0 {
			l[random.IntN(len(l))] = symbol(strings.Fields("MODE OP INT , a ) WHILE")[random.IntN(7)], 77)
		}
		compare(t, l)
		if _, f := indicants.Find(l); f.Code == api.OK && len(l) > 10 {
			good++
		}
	}
	if good < 500 {
		t.Errorf("only %d lists have a table", good)
	}
}
