package brackets_test

import (
	"regexp"
	"strings"
	"testing"

	"environ/api"
	"environ/brackets"
)

// The oracle finds skeletons a second time: symbols become letters, and a group that has only points in it at its level becomes points, until none is left.

// letters are the words of the chapter's table as letters of patterns.
var letters = map[string]string{
	"BEGIN": "B", "END": "E", "[": "S", "]": "s", "DO": "D", "OD": "d", "IF": "I", "THEN": "T", "ELIF": "t", "ELSE": "e", "FI": "i",
	"CASE": "C", "IN": "N", "OUSE": "n", "OUT": "o", "ESAC": "c", "(": "P", "|": "V", "|:": "v", ")": "p",
}

const openLetters = "BSDICP"

// pattern makes a pattern with any number of points behind each letter.
func pattern(p string) *regexp.Regexp {
	return regexp.MustCompile(regexp.MustCompile(`[A-Za-z]`).ReplaceAllString(p, `(?:$0\.*)`))
}

// letter returns the letter of a symbol, or a point.
func letter(x api.Symbol) string {
	if c := letters[x.Text]; c != "" && x.Kind == symbol(x.Text, 0).Kind {
		return c
	}
	return "."
}

var (
	// whole finds a group, with the points behind it.
	whole = pattern(`BE|Ss|Dd|IT(tT)*e?i|CN(nN)*o?c|P(V(vV)*V?)?p`)
	// begun is what stands in front of a place where a list that has a skeleton may go on.
	begun = pattern(`^\.*(B|S|D|I(Tt)*(Te?)?|C(Nn)*(No?)?|P(Vv)*(VV?)?)*$`)
)

// reduced returns a text of letters in which a group has become points, and adds it to the groups, which are there as From and To with Seps.
func reduced(s string, groups []brackets.Group) (string, []brackets.Group) {
	m := whole.FindStringIndex(s)
	if m == nil {
		return s, groups
	}
	text := strings.TrimRight(s[m[0]:m[1]], ".")
	g := brackets.Group{From: m[0], To: m[0] + len(text) - 1}
	for i := g.From + 1; i < g.To; i++ {
		if s[i] != '.' {
			g.Seps = append(g.Seps, i)
		}
	}
	return s[:g.From] + strings.Repeat(".", len(text)) + s[g.To+1:], append(groups, g)
}

// nested returns the groups that stand between two indices at their level, of groups each of which stands behind those in it.
func nested(groups []brackets.Group, from, to int) []brackets.Group {
	var kids []brackets.Group
	for i := from + 1; i < to; i++ {
		for _, g := range groups {
			if g.From == i {
				g.Kids = nested(groups, g.From, g.To)
				kids = append(kids, g)
				i = g.To
				break
			}
		}
	}
	return kids
}

// wantSkeleton returns what Skeleton should return, and the groups without Kids.
func wantSkeleton(l []api.Symbol) (brackets.Group, []brackets.Group, api.Fault) {
	s, at := "", 0
	var groups []brackets.Group
	for _, x := range l {
		if x.Kind == api.SymEnd {
			at = x.At
			break
		}
		c := letter(x)
		s, groups = reduced(s+c, groups)
		open := 0
		for i := range s {
			open += strings.Count(openLetters, s[i:i+1])
		}
		if open > 64 {
			return brackets.Group{}, nil, api.Fault{At: x.At, Code: api.ErrLimit}
		}
		if !begun.MatchString(s) {
			return brackets.Group{}, nil, api.Fault{At: x.At, Code: api.ErrSyntax}
		}
	}
	if strings.Trim(s, ".") != "" {
		return brackets.Group{}, nil, api.Fault{At: at, Code: api.ErrEnd}
	}
	return brackets.Group{From: -1, To: len(s), Kids: nested(groups, -1, len(s))}, groups, api.Fault{}
}

// wantMatch returns what Match should return for an index before the end.
func wantMatch(groups []brackets.Group, i int) int {
	for _, g := range groups {
		if g.From == i {
			return g.To
		}
		if g.To == i {
			return g.From
		}
	}
	return i
}

// wantDepth returns the greatest number of groups around an index.
func wantDepth(groups []brackets.Group, end int) int {
	depth := 0
	for i := range end {
		n := 0
		for _, g := range groups {
			if g.From <= i && i <= g.To {
				n++
			}
		}
		depth = max(depth, n)
	}
	return depth
}

// expectOracle fails the test unless the functions of the package say of a list what the oracle says. It returns the fault.
func expectOracle(t *testing.T, l []api.Symbol) api.Fault {
	t.Helper()
	want, groups, wantFault := wantSkeleton(l)
	g, f := brackets.Skeleton(l)
	if show(g) != show(want) || f != wantFault {
		t.Errorf("Skeleton of %s is %s %d, not %s %d", words(l), show(g), f, show(want), wantFault)
	}
	if brackets.Check(want, l) != (wantFault.Code == api.OK) {
		t.Errorf("Check of %s with %s is %t", words(l), show(want), wantFault.Code != api.OK)
	}
	if wantFault.Code != api.OK {
		return wantFault
	}
	if n := brackets.Depth(g); n != wantDepth(groups, g.To) {
		t.Errorf("Depth of %s is %d", show(g), n)
	}
	for i := range want.To {
		n, f := brackets.Match(l, i)
		if n != wantMatch(groups, i) || f != (api.Fault{}) {
			t.Errorf("Match of %s at %d is %d with the fault %d", words(l), i, n, f)
		}
		// P5.4: Match of Match is the index.
		if back, _ := brackets.Match(l, n); back != i {
			t.Errorf("Match of %s at %d is %d", words(l), n, back)
		}
	}
	return wantFault
}

// every calls see with a text, and, unless see is false for one, with all texts of at most n words more behind it.
func every(words []string, text string, n int, see func(text string) bool) {
	if !see(text) || n == 0 {
		return
	}
	for _, w := range words {
		every(words, text+" "+w, n-1, see)
	}
}

// P5.1, P5.2, P5.3, against the oracle: all short lists of some words, with one word more behind the first fault.
func TestShortLists(t *testing.T) {
	for _, x := range []struct {
		words string
		n     int
	}{
		{"( | |: ) [ ] a", 7}, {"( | |: )", 10}, {"IF THEN ELIF ELSE FI a", 8}, {"CASE IN OUSE OUT ESAC ( )", 7},
		{"IF THEN ELIF ELSE FI ( | |: )", 7}, {"BEGIN END DO OD [ ] a", 6}, {bracketWords + " a $", 4},
	} {
		every(strings.Fields(x.words), "", x.n, func(text string) bool {
			l := list(text)
			f := expectOracle(t, l)
			return f.Code != api.ErrSyntax || f.At == l[len(l)-1].At
		})
	}
}

// P5.1, P5.2, P5.3, against the oracle: lists put together at random, with a word that is wrong in some.
func TestRandomLists(t *testing.T) {
	random := source()
	any := strings.Fields(bracketWords + " a , $ ;")
	for range 40000 {
		l := list(someShortText(random, 1+random.IntN(4)))
		for range random.IntN(3) {
			if len(l) > 0 {
				l[random.IntN(len(l))] = symbol(any[random.IntN(len(any))], random.IntN(9))
			}
		}
		expectOracle(t, l)
	}
	for range 200 {
		inner := someShortText(random, 2)
		for range 58 + random.IntN(8) {
			inner = someGroup(random, func() string { return inner }, 0)
		}
		expectOracle(t, list(inner))
	}
}
