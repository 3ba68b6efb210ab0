package reals

import "environ/api"

// lowest and highest are the ends of the exponents of reals.
const (
	lowest  = -400
	highest = 400
)

// tail says how digits that are left out compare with one half of a unit of the digits that stay.
type tail int

const (
	tailNone tail = iota
	tailBelow
	tailHalf
	tailAbove
)

// cut returns the number with k digits less, if k is above 0, and what was left out. A number with a part is always cut, because it has more digits than any size.
func (x exact) cut(k int) (exact, tail) {
	if k <= 0 {
		return x, tailNone
	}
	x = x.shorter(k - 1)
	q, digit := x.whole.over(10)
	left := exact{negative: x.negative, whole: q, exp: x.exp + 1}
	switch {
	case digit == 0 && !x.more:
		return left, tailNone
	case digit < 5:
		return left, tailBelow
	case digit == 5 && !x.more:
		return left, tailHalf
	}
	return left, tailAbove
}

// inwards reports whether a direction is that towards 0 for numbers of a sign.
func inwards(how int, negative bool) bool {
	return how == Zero || how == Up && negative || how == Down && !negative
}

// grows reports whether a number with this tail is rounded away from 0.
func (x exact) grows(how int, t tail) bool {
	if how != Nearest {
		return t != tailNone && !inwards(how, x.negative)
	}
	odd := x.whole.lo%2 != 0
	return t == tailAbove || t == tailHalf && odd
}

// round returns the real of the size to which the number is rounded, or ErrRange if it overflows.
func (x exact) round(size, how int) (api.Real, api.Errno) {
	if x.whole.isZero() {
		return api.Real{}, api.OK
	}
	p := precisions[size-api.Short]
	last := max(x.exp+x.whole.digits()-p, lowest)
	short, t := x.cut(last - x.exp)
	if short.grows(how, t) {
		short.whole = short.whole.plus(natural{lo: 1})
	}
	if short.exp+short.whole.digits() <= highest+p {
		return short.real(), api.OK
	}
	if how == Nearest || !inwards(how, x.negative) {
		return api.Real{}, api.ErrRange
	}
	greatest := exact{negative: x.negative, whole: natural{lo: tens[p] - 1}, exp: highest}
	return greatest.real(), api.OK
}

// real returns the form of a number that a size has.
func (x exact) real() api.Real {
	if x.whole.isZero() {
		return api.Real{}
	}
	m, e := int64(x.whole.lo), x.exp
	for ; m%10 == 0; m /= 10 {
		e++
	}
	if x.negative {
		m = -m
	}
	return api.Real{M: m, E: e}
}
