package indicants

import (
	"slices"

	"environ/api"
	"environ/brackets"
)

// nest makes the ranges of a list of symbols, from left to right.
type nest struct {
	list  []api.Symbol
	table Table
}

// nestOf returns a table of the ranges of a list that has no end, but for what they declare.
func nestOf(l []api.Symbol, skeleton brackets.Group) Table {
	n := nest{list: l, table: Table{At: make([]int, len(l))}}
	n.group(skeleton, -1)
	return n.table
}

// begin begins a range, and returns its index.
func (n *nest) begin(from, to, outer int) int {
	r := len(n.table.Ranges)
	n.table.Ranges = append(n.table.Ranges, Range{From: from, To: to, Outer: outer})
	// The ranges in it begin later, and take their symbols from it.
	for i := from; i < to; i++ {
		n.table.At[i] = r
	}
	return r
}

// group makes the ranges of a group that stands in a range.
func (n *nest) group(g brackets.Group, around int) {
	if g.From >= 0 && isSign(n.list[g.From], "[") {
		n.level(g.From+1, g.Kids, around)
		return
	}
	kids := g.Kids
	enquiry := around
	for i, p := range brackets.Parts(g) {
		r := n.begin(p[0], p[1], enquiry)
		if i == 0 || enquires(n.list[g.Seps[i-1]]) {
			enquiry = r
		}
		inside := 0
		for inside < len(kids) && kids[inside].From < p[1] {
			inside++
		}
		n.level(p[0], kids[:inside], r)
		kids = kids[inside:]
	}
}

// enquires reports whether a further enquiry stands behind a separator.
func enquires(x api.Symbol) bool {
	return isBold(x, "ELIF") || isBold(x, "OUSE") || isSign(x, "|:")
}

// level makes the ranges of the groups of a level, which begins at an index and stands in a range.
func (n *nest) level(from int, kids []brackets.Group, r int) {
	for {
		do := slices.IndexFunc(kids, func(k brackets.Group) bool { return isBold(n.list[k.From], "DO") })
		if do < 0 {
			break
		}
		n.loop(from, kids[:do+1], r)
		from = kids[do].To + 1
		kids = kids[do+1:]
	}
	for _, k := range kids {
		n.group(k, r)
	}
}

// loop makes the ranges of groups that stand in a range, of which the last one, and no other, is one with DO: from a WHILE on, they stand in its range.
func (n *nest) loop(from int, kids []brackets.Group, r int) {
	do := kids[len(kids)-1].From
	while := n.while(from, kids)
	around := r
	for _, k := range kids {
		if around == r && while < k.From {
			around = n.begin(while, do, r)
		}
		n.group(k, around)
	}
}

// while returns the index of the first WHILE from an index on that stands in none of the groups, before the last of them; or that one's.
func (n *nest) while(from int, kids []brackets.Group) int {
	i := from
	for _, k := range kids {
		for ; i < k.From; i++ {
			if isBold(n.list[i], "WHILE") {
				return i
			}
		}
		i = k.To + 1
	}
	return kids[len(kids)-1].From
}
