package indicants_test

import (
	"math"
	"math/rand/v2"
	"slices"
	"strconv"
	"strings"
	"testing"

	"environ/api"
	"environ/indicants"
)

// copyOf returns a table that shares nothing with another.
func copyOf(t indicants.Table) indicants.Table {
	c := indicants.Table{At: slices.Clone(t.At)}
	for _, r := range t.Ranges {
		r.Modes, r.Ops, r.Prios = slices.Clone(r.Modes), slices.Clone(r.Ops), slices.Clone(r.Prios)
		c.Ranges = append(c.Ranges, r)
	}
	return c
}

// swapped returns texts with two of them exchanged, if there are.
func swapped(l []string, i int) []string {
	l = slices.Clone(l)
	l[0], l[i] = l[i], l[0]
	return l
}

// changes calls see with tables that are a table but for one thing.
func changes(t indicants.Table, see func(t indicants.Table)) {
	change := func(how func(t *indicants.Table)) {
		c := copyOf(t)
		how(&c)
		see(c)
	}
	for _, by := range []int{1, -1, 2, -2, 100, -100, math.MaxInt, math.MinInt} {
		for i := range t.Ranges {
			change(func(t *indicants.Table) { t.Ranges[i].From += by })
			change(func(t *indicants.Table) { t.Ranges[i].To += by })
			change(func(t *indicants.Table) { t.Ranges[i].Outer += by })
			for j := range t.Ranges[i].Prios {
				change(func(t *indicants.Table) { t.Ranges[i].Prios[j].Level += by })
			}
		}
		for i := range t.At {
			change(func(t *indicants.Table) { t.At[i] += by })
		}
	}
	for i := range t.Ranges {
		change(func(t *indicants.Table) { t.Ranges = slices.Delete(t.Ranges, i, i+1) })
		change(func(t *indicants.Table) { t.Ranges = slices.Insert(t.Ranges, i, t.Ranges[i]) })
		change(func(t *indicants.Table) { t.Ranges[0], t.Ranges[i] = t.Ranges[i], t.Ranges[0] })
		change(func(t *indicants.Table) { t.Ranges[i].Modes = append(t.Ranges[i].Modes, "A") })
		change(func(t *indicants.Table) { t.Ranges[i].Ops = append([]string{"A"}, t.Ranges[i].Ops...) })
		change(func(t *indicants.Table) { t.Ranges[i].Prios = append(t.Ranges[i].Prios, indicants.Prio{"A", 1}) })
		for j := range t.Ranges[i].Modes {
			change(func(t *indicants.Table) { t.Ranges[i].Modes = slices.Delete(t.Ranges[i].Modes, j, j+1) })
			change(func(t *indicants.Table) { t.Ranges[i].Modes[j] += "A" })
			change(func(t *indicants.Table) { t.Ranges[i].Modes = swapped(t.Ranges[i].Modes, j) })
			change(func(t *indicants.Table) { t.Ranges[i].Ops = append(t.Ranges[i].Ops, t.Ranges[i].Modes[j]) })
		}
		for j := range t.Ranges[i].Ops {
			change(func(t *indicants.Table) { t.Ranges[i].Ops = slices.Delete(t.Ranges[i].Ops, j, j+1) })
			change(func(t *indicants.Table) { t.Ranges[i].Ops[j] = "" })
			change(func(t *indicants.Table) { t.Ranges[i].Ops = swapped(t.Ranges[i].Ops, j) })
		}
		for j := range t.Ranges[i].Prios {
			change(func(t *indicants.Table) { t.Ranges[i].Prios = slices.Delete(t.Ranges[i].Prios, j, j+1) })
			change(func(t *indicants.Table) { t.Ranges[i].Prios[j].Op += "A" })
			change(func(t *indicants.Table) {
				t.Ranges[i].Prios[0], t.Ranges[i].Prios[j] = t.Ranges[i].Prios[j], t.Ranges[i].Prios[0]
			})
		}
	}
	for i := range t.At {
		change(func(t *indicants.Table) { t.At = slices.Delete(t.At, i, i+1) })
		change(func(t *indicants.Table) { t.At = t.At[:i] })
	}
	change(func(t *indicants.Table) { t.At = append(t.At, 0) })
	change(func(t *indicants.Table) { t.At = append(t.At, make([]int, 1000)...) })
	change(func(t *indicants.Table) { t.Ranges = nil })
	change(func(t *indicants.Table) { *t = indicants.Table{} })
}

// means reports whether some symbol of a list means something by a table.
func means(t indicants.Table, l []api.Symbol) bool { return strings.Trim(meanings(t, l), ".") != "" }

// P6.2: with a table that is changed in one place nothing means anything.
func TestChangedTables(t *testing.T) {
	for _, text := range []string{
		"A + B", "MODE A = x , B = y ; A + OR $ +", "PRIO A = 1 , B = 2 ; OP A = x , + = y , A = z ; a A b OR c", "( MODE A = x ; ( OP A = y , B = z ; A ) A ) + A", "IF MODE A = x THEN PRIO + = 4 ELIF OP B = z , A = w THEN A + B FI",
	} {
		l := list(text)
		own, f := indicants.Find(l)
		if f.Code != api.OK || !means(own, l) || !means(copyOf(own), l) {
			t.Errorf("Find of %s has the fault %d, or nothing means anything", text, f)
		}
		changes(own, func(c indicants.Table) {
			if show(c) != show(own) && means(c, l) {
				t.Errorf("%s: a symbol means something with %s", text, show(c))
			}
		})
	}
}

// P6.2: a table fits all lists for which Find returns it, and no other one.
func TestTablesOfOthers(t *testing.T) {
	var lists [][]api.Symbol
	for _, text := range []string{"", "$", "A", "+", "a", "A A", "+ $", "+ $ +", "a +", "( A )", "[ A ]", "( + )", "MODE A = A", "OP A = A", "OP + = A", "PRIO A = 1", "PRIO A = 2", "PRIO B = 1", "MODE B = A", "A B = A", "MODE A = A $", "( A", "A )", "MODE +", "MODE A", "MODE INT", "OP", "OP $ +"} {
		lists = append(lists, list(text))
	}
	for _, a := range lists {
		table, f := indicants.Find(a)
		for _, b := range lists {
			own, g := indicants.Find(b)
			want := strings.Repeat(".", len(b))
			if f.Code == api.OK && g.Code == api.OK && show(table) == show(own) {
				want = meanings(own, b)
			}
			if got := meanings(table, b); got != want {
				t.Errorf("with the table of %s the words of %s mean %s", words(a), words(b), got)
			}
		}
	}
	// Nil and empty lists are equal.
	l := list("( A ) + OP B = x")
	table, _ := indicants.Find(l)
	want := meanings(table, l)
	for i := range table.Ranges {
		r := &table.Ranges[i]
		r.Modes, r.Ops, r.Prios = append([]string{}, r.Modes...), append([]string{}, r.Ops...), append([]indicants.Prio{}, r.Prios...)
	}
	if got := meanings(table, l); got != want || !strings.Contains(got, "6") {
		t.Errorf("with empty lists the words mean %s, not %s", got, want)
	}
}

// P6.3: the order of the declarations of a range does not matter for what words mean in it.
func TestOrderOfDeclarations(t *testing.T) {
	random := source()
	for range 400 {
		var some []string
		for _, word := range []string{"A", "B", "C", "MOD", "+", "="} {
			switch random.IntN(5) {
			case 0:
				some = append(some, "OP "+word+" = x ;", "OP "+word+" = y ;")
			case 1:
				some = append(some, "PRIO "+word+" = "+strconv.Itoa(1+random.IntN(9))+" ;", "OP "+word+" = x ;")
			case 2:
				if word > "=" {
					some = append(some, "MODE "+word+" = x ;")
				}
			case 3:
				some = append(some, "a "+word+" b ;")
			}
		}
		uses := "A B C MOD + = ( A B C MOD + = ; OP A = x ; PRIO B = 3 ) [ A B C MOD + = ]"
		seen := ""
		for range 3 {
			random.Shuffle(len(some), func(i, j int) { some[i], some[j] = some[j], some[i] })
			at := random.IntN(len(some) + 1)
			text := strings.Join(some[:at], " ") + " ; " + uses + " ; " + strings.Join(some[at:], " ")
			l := list(text)
			table, f := indicants.Find(l)
			from := len(list(strings.Join(some[:at], " "))) + 1
			got := meanings(table, l)[from : from+len(list(uses))]
			if f.Code != api.OK || seen != "" && got != seen {
				t.Errorf("the words of %s mean %s, not %s, with the fault %d", text, got, seen, f)
			}
			seen = got
		}
	}
}

// P6.3: a range that declares nothing changes nothing.
func TestEmptyRanges(t *testing.T) {
	random := source()
	groups := [][2]string{{"(", ")"}, {"BEGIN", "END"}, {"IF THEN", "FI"}, {"CASE IN OUSE", "IN ESAC"}, {"( | |:", "| | )"}, {"( (", ") )"}, {"DO", "OD"}}
	tried := 0
	for range 4000 {
		l := list(someText(random, 2))
		table, f := indicants.Find(l)
		if f.Code != api.OK || len(l) > 100 {
			continue
		}
		want := meanings(table, l)
		for range 5 {
			i := random.IntN(len(l) + 1)
			if i > 0 && strings.Contains("MODE PRIO OP , =", l[i-1].Text) {
				continue
			}
			j := min(len(l), i+1)
			if !isWord(l[i:j]) {
				j = i
			}
			g := groups[random.IntN(len(groups))]
			if g[0] == "DO" && strings.Contains(words(l), "WHILE") {
				// It would end the range of a WHILE.
				continue
			}
			open, closed := list(g[0]), list(g[1])
			other := slices.Concat(l[:i], open, l[i:j], closed, l[j:])
			t2, f := indicants.Find(other)
			if i < len(l) && l[i].Text == "=" {
				// It was a declaration, and is none.
				continue
			}
			got := meanings(t2, other)
			got = got[:i] + got[i+len(open):j+len(open)] + got[j+len(open)+len(closed):]
			if f.Code != api.OK || got != want || !sameDeclarations(table, t2) {
				t.Errorf("the words of %s mean %s, but in %s they mean %s, with the fault %d", words(l), want, words(other), got, f)
			}
			tried++
		}
	}
	if tried < 2000 {
		t.Errorf("only %d lists", tried)
	}
}

// isWord reports whether a list is a use of a word or a tag.
func isWord(l []api.Symbol) bool {
	return len(l) == 1 && (l[0].Kind == api.SymTag || indicants.Operator(l[0]) && l[0].Text != "=")
}

// sameDeclarations reports whether the ranges of two tables that declare something declare the same.
func sameDeclarations(a, b indicants.Table) bool {
	texts := func(t indicants.Table) string {
		s := ""
		for _, r := range t.Ranges {
			r.From, r.To, r.Outer = 0, 0, 0
			if text := showRange(r); text != "0-0^0" {
				s += text + ";"
			}
		}
		return s
	}
	return texts(a) == texts(b)
}

// renamed returns a list with another bold word for one.
func renamed(l []api.Symbol, from, to string) []api.Symbol {
	l = slices.Clone(l)
	for i, x := range l {
		if x.Kind == api.SymBold && x.Text == from {
			l[i].Text = to
		}
	}
	return l
}

// P6.3: another name for a bold word that is not reserved changes the names alone.
func TestRenaming(t *testing.T) {
	random := source()
	for range 1000 {
		l := list(someText(random, 3))
		table, f := indicants.Find(l)
		for _, word := range []string{"A", "B", "C"} {
			for _, name := range []string{"ZZ", "MODE1", "x", "9", " "} {
				other := renamed(l, word, name)
				t2, f2 := indicants.Find(other)
				want := copyOf(table)
				for _, r := range want.Ranges {
					for i, m := range r.Modes {
						r.Modes[i] = instead(m, word, name)
					}
					for i, o := range r.Ops {
						r.Ops[i] = instead(o, word, name)
					}
					for i, p := range r.Prios {
						r.Prios[i].Op = instead(p.Op, word, name)
					}
				}
				if f2 != f || show(t2) != show(want) || len(l) < 40 && meanings(t2, other) != meanings(table, l) {
					t.Errorf("Find of %s is %s with the fault %d, but of %s it is %s with the fault %d", words(l), show(table), f, words(other), show(t2), f2)
				}
			}
		}
	}
}

// instead returns a word, or another one for one of them.
func instead(word, of, other string) string {
	if word == of {
		return other
	}
	return word
}

// anySymbol returns a symbol of any kind with any text.
func anySymbol(random *rand.Rand) api.Symbol {
	w := strings.Fields("MODE PRIO OP A B + = , ; EXIT 1 3 10 ( | |: ) [ ] IF THEN ELIF ELSE FI WHILE DO OD a INT A = = ,")
	x := symbol(w[random.IntN(len(w))], random.IntN(100)-50)
	switch random.IntN(20) {
	case 0:
		x.Kind = random.IntN(13) - 2
	case 1:
		x.Text = []string{"", "\xff", "mode", "((", strings.Repeat("A", 1000)}[random.IntN(5)]
	}
	return x
}

// anyTable returns a table of any numbers.
func anyTable(random *rand.Rand) indicants.Table {
	var t indicants.Table
	number := func() int {
		if random.IntN(20) == 0 {
			return []int{math.MinInt, math.MaxInt, -1, 1000}[random.IntN(4)]
		}
		return random.IntN(6) - 1
	}
	for range random.IntN(4) {
		r := indicants.Range{From: number(), To: number(), Outer: number()}
		for range random.IntN(2) {
			r.Modes, r.Ops, r.Prios = append(r.Modes, "A"), append(r.Ops, "+"), append(r.Prios, indicants.Prio{"B", number()})
		}
		t.Ranges = append(t.Ranges, r)
	}
	for range random.IntN(10) {
		t.At = append(t.At, number())
	}
	return t
}

// P1, P2: every call returns, equal calls have equal results, no argument is changed, and with a fault the result is nothing.
func TestCalls(t *testing.T) {
	random := source()
	for range 30000 {
		l := make([]api.Symbol, random.IntN(12))
		for i := range l {
			l[i] = anySymbol(random)
		}
		kept, any := slices.Clone(l), anyTable(random)
		shown := show(any)
		table, f := indicants.Find(l)
		t2, f2 := indicants.Find(l)
		if show(table) != show(t2) || f != f2 || f.Code != api.OK && show(table) != nothing {
			t.Errorf("Find of %s is %s %d and %s %d", words(l), show(table), f, show(t2), f2)
		}
		for _, i := range []int{random.IntN(16) - 2, math.MinInt, math.MaxInt} {
			if table.Mode(l, i) != table.Mode(l, i) || table.Level(l, i) != table.Level(l, i) {
				t.Errorf("the symbol %d of %s means different things", i, words(l))
			}
			if show(any) != show(table) && (any.Mode(l, i) || any.Level(l, i) != 0) {
				t.Errorf("the symbol %d of %s means something with %s", i, words(l), shown)
			}
		}
		if !slices.Equal(l, kept) || show(any) != shown {
			t.Errorf("the arguments %s and %s are changed", words(kept), shown)
		}
	}
}

// R4 of P1: the lists of a result share no memory, also behind their ends, and none with an argument.
func TestMemory(t *testing.T) {
	random := source()
	l := list("MODE A = x , B = y , C = z ; OP A1 = x , + = y , - = z ; PRIO A1 = 1 , A2 = 2 , + = 3 ; ( MODE A = x ; OP B = y )")
	for n := range 2000 {
		if n > 0 {
			l = list(someText(random, 3))
		}
		table, f := indicants.Find(l)
		want, mean := show(table), ""
		if f.Code == api.OK {
			mean = meanings(table, l[:min(len(l), 20)])
		}
		for i := range table.Ranges {
			r := table.Ranges[i]
			for j := len(r.Modes); j < cap(r.Modes); j++ {
				r.Modes[:cap(r.Modes)][j] = "?"
			}
			for j := len(r.Ops); j < cap(r.Ops); j++ {
				r.Ops[:cap(r.Ops)][j] = "?"
			}
			for j := len(r.Prios); j < cap(r.Prios); j++ {
				r.Prios[:cap(r.Prios)][j].Op = "?"
			}
		}
		for j := len(table.Ranges); j < cap(table.Ranges); j++ {
			table.Ranges[:cap(table.Ranges)][j].From = -9
		}
		for j := len(table.At); j < cap(table.At); j++ {
			table.At[:cap(table.At)][j] = -9
		}
		if show(table) != want || f.Code == api.OK && meanings(table, l[:min(len(l), 20)]) != mean {
			t.Errorf("what stands behind the lists of %s changes it to %s", want, show(table))
		}
		for i := range table.Ranges {
			table.Ranges[i] = indicants.Range{}
		}
		if t2, _ := indicants.Find(l); show(t2) != want {
			t.Errorf("Find of %s is %s, and then %s", words(l), want, show(t2))
		}
	}
	behind := append(list("MODE A = x"), symbol("B", 1), symbol("C", 1))
	if _, f := indicants.Find(behind[:4]); f.Code != api.OK || behind[4].Text != "B" || behind[5].Text != "C" {
		t.Error("Find has changed what stands behind its list")
	}
}

// P1: long lists.
func TestLongLists(t *testing.T) {
	const n = 1 << 16
	names := func(front, behind string) string {
		var s strings.Builder
		for i := range n {
			s.WriteString(front + "X" + strconv.Itoa(i) + behind)
		}
		return s.String()
	}
	for _, c := range []struct {
		text   string
		ranges int
		code   api.Errno
	}{
		{many(n, "A"), 1, api.OK}, {many(n, "( )"), n + 1, api.OK}, {many(n, "WHILE ( )"), n + 1, api.OK}, {many(n, "WHILE"), 1, api.OK}, {many(n, "WHILE") + "DO OD", 3, api.OK}, {many(n, "WHILE DO OD"), 2*n + 1, api.OK}, {many(n, "[ ] WHILE"), 1, api.OK},
		{"IF a THEN " + many(n, "b ELIF c THEN") + "FI", 2*n + 3, api.OK}, {many(n, ", A ="), 1, api.OK}, {"OP + = x " + many(n, ", + = x"), 1, api.OK}, {many(63, "(") + many(n, "WHILE A DO A OD") + many(63, ")"), 64 + 2*n, api.OK},
		{names("MODE ", " = x ; "), 1, api.OK}, {"PRIO + = 1 " + names(", ", " = 1 "), 1, api.OK}, {names("OP ", " = x ; ") + " MODE X0 = x", 0, api.ErrTwice}, {names("( MODE ", " = x ) "), n + 1, api.OK}, {many(n, "a ;") + "MODE", 0, api.ErrName},
	} {
		l := list(c.text)
		table, f := indicants.Find(l)
		if f.Code != c.code || len(table.Ranges) != c.ranges {
			t.Errorf("Find of %s.. has %d ranges with the fault %d", c.text[:20], len(table.Ranges), f)
		}
		table.Mode(l, len(l)-3)
		table.Level(l, 1)
	}
}
