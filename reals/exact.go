package reals

import "environ/api"

// exact is what an operation on reals gives before it is rounded: (whole + part) times 10 to the power of exp, where part is above 0 and below 1 if more, and otherwise 0. If more, whole has more digits than a real of any size, so that the part decides nothing but which way a tail is rounded.
type exact struct {
	negative bool
	whole    natural
	exp      int
	more     bool
}

func exactOf(x api.Real) exact {
	return exact{negative: x.M < 0, whole: natural{lo: magnitude(x.M)}, exp: x.E}
}

// magnitude returns the absolute value, which the least int64 has only as a uint64.
func magnitude(m int64) uint64 {
	if m < 0 {
		return -uint64(m)
	}
	return uint64(m)
}

// longer returns the same number with at least so many digits before its part.
func (x exact) longer(digits int) exact {
	for k := digits - x.whole.digits(); k > 0; k -= step {
		places := min(k, step)
		x.whole = x.whole.times(tens[places])
		x.exp -= places
	}
	return x
}

// shorter returns the same number with k digits moved into its part.
func (x exact) shorter(k int) exact {
	x.exp += k
	for ; k > 0 && !x.whole.isZero(); k -= step {
		q, rest := x.whole.over(tens[min(k, step)])
		x.whole = q
		x.more = x.more || rest != 0
	}
	return x
}

// sum adds numbers without parts, of at most 18 digits each.
func sum(x, y exact) exact {
	if x.whole.isZero() {
		return y
	}
	if y.whole.isZero() {
		return x
	}
	if x.exp < y.exp {
		x, y = y, x
	}
	// Digits of y more than a step behind the last one of x become a part: those before them are more than any size has.
	gap := min(x.exp-y.exp, step)
	y = y.shorter(x.exp - gap - y.exp)
	x.whole, x.exp = x.whole.times(tens[gap]), x.exp-gap
	if x.negative == y.negative {
		x.whole, x.more = x.whole.plus(y.whole), y.more
		return x
	}
	return difference(x, y)
}

// difference takes the magnitude of y from that of x, which has the same exponent and no part; the sign is that of the greater one. If y has a part, x is greater.
func difference(x, y exact) exact {
	if x.whole.less(y.whole) {
		x, y = y, x
	}
	x.whole, x.more = x.whole.minus(y.whole), y.more
	if y.more {
		x.whole = x.whole.minus(natural{lo: 1})
	}
	return x
}

// product multiplies numbers without parts, of at most 18 digits each.
func product(x, y exact) exact {
	return exact{
		negative: x.negative != y.negative,
		whole:    x.whole.times(y.whole.lo),
		exp:      x.exp + y.exp,
	}
}

// quotient divides numbers without parts, of at most 18 digits each; y is not 0.
func quotient(x, y exact) exact {
	if x.whole.isZero() {
		return x
	}
	// 37 digits by at most 18 are at least 19.
	x = x.longer(37)
	q, rest := x.whole.over(y.whole.lo)
	return exact{
		negative: x.negative != y.negative,
		whole:    q,
		exp:      x.exp - y.exp,
		more:     rest != 0,
	}
}

// root returns the root of a number without a part that is not negative.
func (x exact) root() exact {
	if x.whole.isZero() {
		return x
	}
	// The root of 37 or 38 digits has 19; an exponent must be even to be halved.
	x = x.longer(37)
	if x.exp%2 != 0 {
		x = x.longer(38)
	}
	r := x.whole.root()
	square := natural{lo: r}.times(r)
	return exact{whole: natural{lo: r}, exp: x.exp / 2, more: square != x.whole}
}
