package reals

import "math/bits"

// natural is the number hi times 2^64 plus lo. That is room for 38 digits, and no operation on reals needs more of them.
type natural struct{ hi, lo uint64 }

// step is the greatest exponent of tens.
const step = 19

// tens has the powers of ten that fit a uint64, by their exponents.
var tens = [step + 1]uint64{
	1, 10, 100, 1000, 10000, 100000, 1000000, 10000000, 100000000, 1000000000,
	10000000000, 100000000000, 1000000000000, 10000000000000, 100000000000000,
	1000000000000000, 10000000000000000, 100000000000000000, 1000000000000000000,
	10000000000000000000,
}

func (n natural) isZero() bool { return n == natural{} }

func (n natural) less(m natural) bool {
	return n.hi < m.hi || n.hi == m.hi && n.lo < m.lo
}

func (n natural) plus(m natural) natural {
	lo, carry := bits.Add64(n.lo, m.lo, 0)
	hi, _ := bits.Add64(n.hi, m.hi, carry)
	return natural{hi, lo}
}

// minus returns the difference of n and a number that is not greater.
func (n natural) minus(m natural) natural {
	lo, borrow := bits.Sub64(n.lo, m.lo, 0)
	hi, _ := bits.Sub64(n.hi, m.hi, borrow)
	return natural{hi, lo}
}

func (n natural) times(factor uint64) natural {
	hi, lo := bits.Mul64(n.lo, factor)
	return natural{hi + n.hi*factor, lo}
}

// over returns the quotient and the remainder.
func (n natural) over(divisor uint64) (natural, uint64) {
	lo, rest := bits.Div64(n.hi%divisor, n.lo, divisor)
	return natural{n.hi / divisor, lo}, rest
}

// digits returns the number of decimal digits, 0 for 0.
func (n natural) digits() int {
	if n.hi == 0 {
		return digitsOf(n.lo)
	}
	q, _ := n.over(tens[step])
	return step + q.digits()
}

// digitsOf returns the number of decimal digits, 0 for 0.
func digitsOf(n uint64) int {
	// 1233/4096 is near enough to the logarithm of 2 that this is the number of digits, or one less.
	d := bits.Len64(n) * 1233 >> 12
	if n >= tens[d] {
		d++
	}
	return d
}

// root returns the root of n, without its fraction. n has at most 38 digits.
func (n natural) root() uint64 {
	// Newton's steps from above come down to the root, and stop there.
	r := tens[step]
	for {
		q, _ := n.over(r)
		if !q.less(natural{lo: r}) {
			return r
		}
		r = q.lo + (r-q.lo)/2
	}
}
