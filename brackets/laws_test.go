package brackets_test

import (
	"math"
	"math/rand/v2"
	"slices"
	"strings"
	"testing"

	"environ/api"
	"environ/brackets"
)

// someText returns words of symbols, and groups nested at most so deep.
func someText(random *rand.Rand, depth int) string {
	s := ""
	for range random.IntN(4) {
		if depth > 0 && random.IntN(3) > 0 {
			s += someGroup(random, func() string { return someText(random, depth-1) }, 2)
		} else {
			s += []string{"a ", "b ", "; ", ", ", ":= ", "OF ", "WHILE ", "FOR "}[random.IntN(8)]
		}
	}
	return s
}

// someShortText returns a text of at most 30 words.
func someShortText(random *rand.Rand, depth int) string {
	for {
		if s := someText(random, depth); len(strings.Fields(s)) <= 30 {
			return s
		}
	}
}

// someGroup returns a group, with at most more pairs of again and first. What inner returns stands in its first part, and in some other ones, if there may be more.
func someGroup(random *rand.Rand, inner func() string, more int) string {
	w := [][]string{{"BEGIN", "END"}, {"[", "]"}, {"DO", "OD"}, {"(", ")"}, {"IF", "FI", "THEN", "ELIF", "ELSE"}, {"CASE", "ESAC", "IN", "OUSE", "OUT"}, {"(", ")", "|", "|:", "|"}}[random.IntN(7)]
	s := w[0] + " " + inner()
	another := func(word string) {
		s += word + " "
		if more > 0 {
			s += inner()
		}
	}
	if len(w) > 2 {
		another(w[2])
		for range random.IntN(more + 1) {
			another(w[3])
			another(w[2])
		}
		if random.IntN(2) == 0 {
			another(w[4])
		}
	}
	return s + w[1] + " "
}

// copyOf returns a group that shares nothing with another.
func copyOf(g brackets.Group) brackets.Group {
	c := brackets.Group{From: g.From, To: g.To, Seps: slices.Clone(g.Seps)}
	for _, k := range g.Kids {
		c.Kids = append(c.Kids, copyOf(k))
	}
	return c
}

// all calls see with a group and all those in it, which it may change.
func all(g *brackets.Group, see func(g *brackets.Group)) {
	see(g)
	for i := range g.Kids {
		all(&g.Kids[i], see)
	}
}

// changes calls see with groups that are a group but for one thing in one of the groups in it.
func changes(g brackets.Group, see func(g brackets.Group)) {
	change := func(n int, how func(g *brackets.Group)) {
		c := copyOf(g)
		var groups []*brackets.Group
		all(&c, func(g *brackets.Group) { groups = append(groups, g) })
		how(groups[n])
		see(c)
	}
	n := 0
	all(&g, func(at *brackets.Group) {
		for _, by := range []int{1, -1, 2, -2, 100, -100, math.MaxInt, math.MinInt} {
			change(n, func(g *brackets.Group) { g.From += by })
			change(n, func(g *brackets.Group) { g.To += by })
			for i := range at.Seps {
				change(n, func(g *brackets.Group) { g.Seps[i] += by })
			}
		}
		for i := range len(at.Seps) + 1 {
			for _, x := range []int{at.From, at.To, at.From + 1, at.To - 1, -1, 1000} {
				change(n, func(g *brackets.Group) { g.Seps = slices.Insert(g.Seps, i, x) })
			}
		}
		for i := range at.Seps {
			change(n, func(g *brackets.Group) { g.Seps = slices.Delete(g.Seps, i, i+1) })
			change(n, func(g *brackets.Group) { g.Seps = slices.Insert(g.Seps, i, g.Seps[i]) })
			change(n, func(g *brackets.Group) { g.Seps[0], g.Seps[i] = g.Seps[i], g.Seps[0] })
		}
		for i := range at.Kids {
			change(n, func(g *brackets.Group) { g.Kids = slices.Delete(g.Kids, i, i+1) })
			change(n, func(g *brackets.Group) { g.Kids = slices.Insert(g.Kids, i, copyOf(g.Kids[i])) })
			change(n, func(g *brackets.Group) { g.Kids[0], g.Kids[i] = g.Kids[i], g.Kids[0] })
			change(n, func(g *brackets.Group) { g.Kids = slices.Insert(g.Kids, i+1, brackets.Group{From: 1, To: 2}) })
			// Its kids stand beside it, or it stands in itself.
			change(n, func(g *brackets.Group) { g.Kids = append(g.Kids, g.Kids[i].Kids...); g.Kids[i].Kids = nil })
			change(n, func(g *brackets.Group) { k := copyOf(g.Kids[i]); g.Kids[i].Kids = append(g.Kids[i].Kids, k) })
			if j := i + 1; j < len(at.Kids) {
				change(n, func(g *brackets.Group) {
					g.Kids[i].Kids = append(g.Kids[i].Kids, g.Kids[j])
					g.Kids = slices.Delete(g.Kids, j, j+1)
				})
			}
		}
		n++
	})
}

// P5.3: Check accepts the skeleton, and nothing that differs from it.
func TestChecksOfChanges(t *testing.T) {
	random := source()
	texts := []string{"", "$", "a b", "( )", "IF a THEN ( b | c ) ELSE [ d ] FI $", "( | |: | | ) [ ] $ )", "CASE IN OUSE ( ) IN OUT ESAC BEGIN DO OD END"}
	for range 300 {
		texts = append(texts, someShortText(random, 3))
	}
	for _, text := range texts {
		l := list(text)
		g, f := brackets.Skeleton(l)
		if f.Code != api.OK || !brackets.Check(g, l) || !brackets.Check(copyOf(g), l) {
			t.Errorf("Skeleton of %s is %s with the fault %d, and Check is false", text, show(g), f)
		}
		want := show(g)
		changes(g, func(c brackets.Group) {
			if brackets.Check(c, l) != (show(c) == want) {
				t.Errorf("Check of %s with %s is %t", text, show(c), show(c) != want)
			}
		})
		if show(g) != want {
			t.Errorf("Check has changed %s to %s", want, show(g))
		}
	}
}

// P5.3: no group is the skeleton of a list that has none, not even the one it seems to have.
func TestChecksWithoutSkeleton(t *testing.T) {
	kids := func(kids ...brackets.Group) brackets.Group { return brackets.Group{From: -1, Kids: kids} }
	group := func(from, to int, seps ...int) brackets.Group { return brackets.Group{From: from, To: to, Seps: seps} }
	deep := brackets.Group{From: 64, To: 65}
	for i := 63; i >= 0; i-- {
		deep = brackets.Group{From: i, To: 129 - i, Kids: []brackets.Group{deep}}
	}
	for _, c := range []struct {
		text string
		g    brackets.Group
	}{
		{"IF a FI", kids(group(0, 2))}, {"CASE a ESAC", kids(group(0, 2))}, {"( | | | )", kids(group(0, 4, 1, 2, 3))}, {"( | |: )", kids(group(0, 3, 1, 2))}, {"IF THEN ELSE ELSE FI", kids(group(0, 4, 1, 2, 3))},
		{"( ]", kids(group(0, 1))}, {"BEGIN )", kids(group(0, 1))}, {"( THEN )", kids(group(0, 2, 1))}, {"( THEN )", kids(group(0, 2))}, {"[ | ]", kids(group(0, 2, 1))},
		{"(", kids(group(0, 1))}, {"( $", kids(group(0, 1))}, {"(", kids()}, {"(", kids(group(0, 0))}, {")", kids()}, {")", kids(group(-1, 0))}, {"THEN", kids()}, {"|", brackets.Group{From: -1, Seps: []int{0}}},
		{many(65, "(") + many(65, ")"), kids(deep)}, {many(65, "[") + many(65, "]") + "$", kids(deep)},
	} {
		l := list(c.text)
		for to := range len(l) + 2 {
			c.g.To = to
			if brackets.Check(c.g, l) {
				t.Errorf("Check of %s with %s is true", words(l), show(c.g))
			}
		}
		if brackets.Check(brackets.Group{}, l) {
			t.Errorf("Check of %s with the zero Group is true", words(l))
		}
	}
	inner := deep.Kids[0]
	all(&inner, func(g *brackets.Group) { g.From, g.To = g.From-1, g.To-1 })
	if g := (brackets.Group{From: -1, To: 128, Kids: []brackets.Group{inner}}); !brackets.Check(g, list(many(64, "(")+many(64, ")"))) {
		t.Error("Check of 64 brackets is false")
	}
}

// P5.3, P5.4: of all groups that are skeletons of short lists just that of a list is accepted for it.
func TestOneSkeleton(t *testing.T) {
	var lists [][]api.Symbol
	groups := map[string]brackets.Group{}
	every(strings.Fields("( | ) [ ] a"), "", 4, func(text string) bool {
		l := list(text)
		lists = append(lists, l)
		if g, f := brackets.Skeleton(l); f.Code == api.OK {
			groups[show(g)] = g
		}
		return true
	})
	for _, l := range lists {
		own, f := brackets.Skeleton(l)
		for s, g := range groups {
			if brackets.Check(g, l) != (f.Code == api.OK && show(own) == s) {
				t.Errorf("Check of %s with %s, whose skeleton is %s", words(l), s, show(own))
			}
		}
	}
}

// P5.4: each bracket belongs to just one group, each word or sign of the second column too, and groups of a level do not overlap.
func TestEachBracketOnce(t *testing.T) {
	random := source()
	for range 5000 {
		l := append(list(someText(random, 4)), symbol("$", 0))
		g, f := brackets.Skeleton(l)
		if f.Code != api.OK || g.From != -1 || g.To != len(l)-1 || len(g.Seps) > 0 {
			t.Fatalf("Skeleton of %s is %s with the fault %d", words(l), show(g), f)
		}
		seen := make([]int, len(l))
		all(&g, func(g *brackets.Group) {
			at := g.From
			for _, s := range g.Seps {
				if s <= at || s >= g.To {
					t.Errorf("Skeleton of %s has Seps out of order", words(l))
				}
				at = s
				seen[s]++
			}
			at = g.From
			for _, k := range g.Kids {
				if k.From <= at || k.To <= k.From || k.To >= g.To {
					t.Errorf("Skeleton of %s has groups that overlap", words(l))
				}
				at = k.To
				seen[k.From]++
				seen[k.To]++
			}
		})
		for i, x := range l[:len(l)-1] {
			want := 0
			if letter(x) != "." {
				want = 1
			}
			if seen[i] != want {
				t.Errorf("Skeleton of %s has the symbol %d in %d groups", words(l), i, seen[i])
			}
		}
	}
}

// P5.4: the skeleton does not look at the order of anything but brackets, nor at what it is.
func TestOrderOfOthers(t *testing.T) {
	random := source()
	for range 5000 {
		l := list(someText(random, 4))
		if random.IntN(3) == 0 && len(l) > 0 {
			l = slices.Delete(l, 0, 1)
		}
		g, f := brackets.Skeleton(l)
		other := slices.Clone(l)
		var places []int
		for i, x := range l {
			if letter(x) == "." {
				places = append(places, i)
			}
		}
		random.Shuffle(len(places), func(i, j int) {
			a, b := places[i], places[j]
			other[a], other[b] = other[b], other[a]
		})
		for _, i := range places {
			if random.IntN(2) == 0 {
				other[i] = api.Symbol{Kind: 1 + random.IntN(20), Text: []string{"", "x", "<", "OF"}[random.IntN(4)], At: random.IntN(9)}
			}
		}
		if g2, f2 := brackets.Skeleton(other); show(g2) != show(g) || f2 != f {
			t.Errorf("Skeleton of %s is %s %d, but of %s it is %s %d", words(l), show(g), f, words(other), show(g2), f2)
		}
	}
}

// anySymbol returns a symbol of any kind with any text, most of them brackets.
func anySymbol(random *rand.Rand) api.Symbol {
	w := strings.Fields(bracketWords + " a ; OF")
	x := symbol(w[random.IntN(len(w))], random.IntN(100)-50)
	switch random.IntN(20) {
	case 0:
		x.Kind = random.IntN(13) - 2
	case 1:
		x.Text = []string{"", "\xff", "then", "((", strings.Repeat("A", 1000)}[random.IntN(5)]
	}
	return x
}

// anyGroup returns a group of any numbers.
func anyGroup(random *rand.Rand, depth int) brackets.Group {
	g := brackets.Group{From: random.IntN(12) - 2, To: random.IntN(12) - 1}
	for range random.IntN(3) {
		g.Seps = append(g.Seps, random.IntN(12)-1)
	}
	for range random.IntN(1 + depth) {
		g.Kids = append(g.Kids, anyGroup(random, depth-1))
	}
	return g
}

// P1, P2: every call returns, equal calls have equal results, no argument is changed, and with a fault the result is nothing.
func TestCalls(t *testing.T) {
	random := source()
	for range 20000 {
		l := make([]api.Symbol, random.IntN(12))
		for i := range l {
			l[i] = anySymbol(random)
		}
		kept, any := slices.Clone(l), anyGroup(random, 3)
		shown := show(any)
		g, f := brackets.Skeleton(l)
		g2, f2 := brackets.Skeleton(l)
		if show(g) != show(g2) || f != f2 || f.Code != api.OK && show(g) != nothing {
			t.Errorf("Skeleton of %s is %s %d and %s %d", words(l), show(g), f, show(g2), f2)
		}
		for _, i := range []int{random.IntN(16) - 2, math.MinInt, math.MaxInt} {
			n, f := brackets.Match(l, i)
			if n2, f2 := brackets.Match(l, i); n != n2 || f != f2 || f.Code != api.OK && n != 0 {
				t.Errorf("Match of %s at %d is %d %d and %d %d", words(l), i, n, f, n2, f2)
			}
		}
		if brackets.Check(any, l) != (f.Code == api.OK && show(g) == shown) || brackets.Check(any, l) != brackets.Check(any, l) {
			t.Errorf("Check of %s with %s", words(l), shown)
		}
		if brackets.Depth(any) != brackets.Depth(copyOf(any)) || !slices.Equal(brackets.Parts(any), brackets.Parts(copyOf(any))) {
			t.Errorf("Depth or Parts of %s", shown)
		}
		if !slices.Equal(l, kept) || show(any) != shown {
			t.Errorf("the arguments %s and %s are changed", words(kept), shown)
		}
	}
}

// R4 of P1: the lists of a result share no memory, also behind their ends, and none with an argument.
func TestMemory(t *testing.T) {
	random := source()
	for range 500 {
		g, _ := brackets.Skeleton(list(someText(random, 4)))
		want := show(g)
		all(&g, func(g *brackets.Group) {
			for i := len(g.Seps); i < cap(g.Seps); i++ {
				g.Seps[:cap(g.Seps)][i] = -9
			}
			for i := len(g.Kids); i < cap(g.Kids); i++ {
				g.Kids[:cap(g.Kids)][i] = brackets.Group{From: -9}
			}
		})
		if show(g) != want {
			t.Errorf("what stands behind the lists of %s changes it to %s", want, show(g))
		}
		parts := brackets.Parts(g)
		parts[0] = [2]int{-9, -9}
		if show(g) != want {
			t.Errorf("Parts of %s change it to %s", want, show(g))
		}
		seps, kids := append([]int{3}, 7, 8)[:1], append([]brackets.Group{{From: 0, To: 4, Seps: []int{3}}}, brackets.Group{From: 9})[:1]
		kids[0].Seps = seps
		brackets.Check(brackets.Group{From: -1, To: 5, Kids: kids}, list("( a b | )"))
		if seps[:2][1] != 7 || kids[:2][1].From != 9 || kids[0].From != 0 {
			t.Error("Check has changed what stands behind the lists of its group")
		}
	}
}

// P1: long lists.
func TestLongLists(t *testing.T) {
	const n = 1 << 17
	for _, c := range []struct {
		word string
		f    api.Fault
	}{
		{"a", api.Fault{}}, {"( )", api.Fault{}}, {"(", api.Fault{At: place(64), Code: api.ErrLimit}}, {"IF THEN FI", api.Fault{}}, {")", api.Fault{At: place(0), Code: api.ErrSyntax}},
	} {
		l := list(many(n, c.word))
		g, f := brackets.Skeleton(l)
		if f != c.f || brackets.Check(g, l) != (f.Code == api.OK) {
			t.Errorf("many times %s: the fault %d", c.word, f)
		}
		if i, f := brackets.Match(l, len(l)-1); f.Code == api.OK && c.word != "a" && i != len(l)-len(strings.Fields(c.word)) {
			t.Errorf("many times %s: Match is %d", c.word, i)
		}
	}
	g, f := brackets.Skeleton(list("( " + many(n, "| |:") + "| )"))
	if f.Code != api.OK || len(g.Kids[0].Seps) != 2*n+1 || len(brackets.Parts(g.Kids[0])) != 2*n+2 {
		t.Errorf("many parts: the fault %d", f)
	}
}
