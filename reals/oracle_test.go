package reals_test

import (
	"fmt"
	"math/big"
	"testing"

	"environ/api"
	"environ/reals"
)

// The oracle computes results a second time, with fractions of any length, and rounds them by the words of the chapter, so that it shares no way of computing with the package.

func digitsOf(size int) int {
	return map[int]int{api.Short: 7, api.Plain: 15, api.Long: 18}[size]
}

func isSize(size int) bool {
	return size == api.Short || size == api.Plain || size == api.Long
}

func isDirection(how int) bool {
	return how == reals.Nearest || how == reals.Up || how == reals.Down || how == reals.Zero
}

// powers are the powers of ten that have been asked for, which nobody changes.
var powers = []*big.Int{big.NewInt(1)}

// ten returns 10 to the power of n, which is not negative.
func ten(n int) *big.Int {
	for len(powers) <= n {
		powers = append(powers, new(big.Int).Mul(powers[len(powers)-1], big.NewInt(10)))
	}
	return powers[n]
}

// fraction returns m times 10 to the power of e.
func fraction(m int64, e int) *big.Rat {
	n := new(big.Rat).SetInt64(m)
	if e < 0 {
		return n.Quo(n, new(big.Rat).SetInt(ten(-e)))
	}
	return n.Mul(n, new(big.Rat).SetInt(ten(e)))
}

func fractionOf(x api.Real) *big.Rat { return fraction(x.M, x.E) }

// amount is an exact result: its sign, and its absolute value as a whole number of units of 10 to the power of e, with what is left over: 0 is nothing, 1 less than half a unit, 2 half a unit, 3 more.
type amount struct {
	sign int
	in   func(e int) (whole *big.Int, left int)
}

// left compares a rest of a unit with its half.
func left(rest, unit *big.Int) int {
	if rest.Sign() == 0 {
		return 0
	}
	return 2 + new(big.Int).Lsh(rest, 1).Cmp(unit)
}

func rational(n *big.Rat) amount {
	return amount{n.Sign(), func(e int) (*big.Int, int) {
		units, unit := new(big.Int).Abs(n.Num()), n.Denom()
		if e < 0 {
			units.Mul(units, ten(-e))
		} else {
			unit = new(big.Int).Mul(unit, ten(e))
		}
		whole, rest := units.QuoRem(units, unit, new(big.Int))
		return whole, left(rest, unit)
	}}
}

// rootOf is the root of a fraction that is not negative. Roots are compared by their squares.
func rootOf(n *big.Rat) amount {
	return amount{n.Sign(), func(e int) (*big.Int, int) {
		square := new(big.Rat).Mul(n, fraction(1, -2*e))
		whole := new(big.Int).Quo(square.Num(), square.Denom())
		whole.Sqrt(whole)
		half := new(big.Rat).SetFrac(new(big.Int).Add(new(big.Int).Lsh(whole, 1), big.NewInt(1)), big.NewInt(2))
		if new(big.Rat).SetInt(new(big.Int).Mul(whole, whole)).Cmp(square) == 0 {
			return whole, 0
		}
		return whole, 2 + square.Cmp(half.Mul(half, half))
	}}
}

// wantReal returns the form of a number m times 10 to the power of e that a size has.
func wantReal(sign int, m *big.Int, e int) api.Real {
	if m.Sign() == 0 {
		return api.Real{}
	}
	text := m.String()
	for text[len(text)-1] == '0' {
		text, e = text[:len(text)-1], e+1
	}
	n, ok := new(big.Int).SetString(text, 10)
	if !ok || !n.IsInt64() {
		panic("not a real: " + text)
	}
	return r(int64(sign)*n.Int64(), e)
}

// wantRounded rounds by the chapter: the neighbours of the amount are whole and whole + 1 units.
func wantRounded(size, how int, a amount) (api.Real, api.Errno) {
	p := digitsOf(size)
	whole, _ := a.in(-400)
	e := -400 + max(0, len(whole.String())-p)
	whole, rest := a.in(e)
	next := new(big.Int).Add(whole, big.NewInt(1))
	// is reports whether a number of these units is below the first power of ten that is no real any more.
	is := func(m *big.Int) bool {
		return new(big.Int).Mul(m, ten(e+400)).Cmp(ten(p+800)) < 0
	}
	outwards := how == reals.Up && a.sign > 0 || how == reals.Down && a.sign < 0
	switch {
	case how == reals.Nearest:
		if rest == 3 || rest == 2 && whole.Bit(0) == 1 {
			whole = next
		}
		if !is(whole) {
			return api.Real{}, api.ErrRange
		}
	case outwards:
		if rest != 0 {
			whole = next
		}
		if !is(whole) {
			return api.Real{}, api.ErrRange
		}
	case !is(whole):
		return r(int64(a.sign)*nines(size), 400), api.OK
	}
	return wantReal(a.sign, whole, e), api.OK
}

// wantValid looks for an M and an E of the size that are the number.
func wantValid(size int, x api.Real) bool {
	if !isSize(size) || x.M != 0 && x.M%10 == 0 || x.M == 0 && x.E != 0 {
		return false
	}
	m := new(big.Int).Abs(big.NewInt(x.M))
	for e := 400; e >= -400; e-- {
		if more := x.E - e; x.E >= e && x.E < 500 && new(big.Int).Mul(m, ten(more)).Cmp(ten(digitsOf(size))) < 0 {
			return true
		}
	}
	return false
}

// wantBinary gives the results for all directions from one exact result, which is what takes the time.
func wantBinary(name string, x, y api.Real) amount {
	a, b := fractionOf(x), fractionOf(y)
	n := new(big.Rat)
	switch name {
	case "Add":
		return rational(n.Add(a, b))
	case "Sub":
		return rational(n.Sub(a, b))
	case "Mul":
		return rational(n.Mul(a, b))
	case "Div":
		return rational(n.Quo(a, b))
	}
	panic("no such function: " + name)
}

// holdBinary compares the four operations with the oracle for two valid reals.
func holdBinary(t *testing.T, size int, x, y api.Real) {
	t.Helper()
	for name, f := range binaries() {
		var a amount
		if name != "Div" || y.M != 0 {
			a = wantBinary(name, x, y)
		}
		for _, how := range directions {
			want, e := api.Real{}, api.ErrRange
			if a.in != nil {
				want, e = wantRounded(size, how, a)
			}
			got, g := f(size, how, x, y)
			if want != got || e != g {
				expect(t, fmt.Sprintf("%s(%d, %d, %d, %d)", name, size, how, x, y), want, e, got, g)
			}
		}
	}
}

// P2.2, against the oracle: pairs of edges.
func TestBinaryEdges(t *testing.T) {
	for _, size := range goodSizes {
		list := edges(size)
		for i, x := range list {
			for j, y := range list {
				if (i+j)%5 == 0 || i < 3 || j < 3 { // a part of them is enough to hold each pair of kinds
					holdBinary(t, size, x, y)
				}
			}
		}
	}
}

// P2.2, against the oracle: numbers whose digits overlap, or meet, or lie just apart.
func TestBinaryNearby(t *testing.T) {
	random := source()
	for _, size := range goodSizes {
		for range 1500 {
			holdBinary(t, size, some(random, size, -20, 41), some(random, size, -20, 41))
		}
		for range 300 {
			holdBinary(t, size, some(random, size, -400, 25), some(random, size, -400, 25))
			holdBinary(t, size, some(random, size, -210, 21), some(random, size, -210, 21))
			holdBinary(t, size, some(random, size, 190, 21), some(random, size, 190, 21))
			holdBinary(t, size, some(random, size, 370, 31), some(random, size, 370, 31))
			holdBinary(t, size, some(random, size, -400, 801), some(random, size, -400, 801))
		}
	}
}

// P2.2, against the oracle: sums that are just between two neighbours, and next to that.
func TestTies(t *testing.T) {
	random := source()
	for _, size := range goodSizes {
		top := nines(size)
		for range 100 {
			m := top - random.Int64N(top/2)
			if m%10 == 0 {
				m--
			}
			e := random.IntN(750) - 370
			for _, y := range both(r(5, e-1), r(49, e-2), r(51, e-2), r(5, e-2), r(50001, e-5), r(5000001, e-7)) {
				holdBinary(t, size, r(m, e), y)
				holdBinary(t, size, r(-m, e), y)
			}
		}
	}
}

func holdSqrt(t *testing.T, size int, x api.Real) {
	t.Helper()
	for _, how := range directions {
		want, e := api.Real{}, api.ErrRange
		if x.M >= 0 {
			want, e = wantRounded(size, how, rootOf(fractionOf(x)))
		}
		got, g := reals.Sqrt(size, how, x)
		expect(t, fmt.Sprintf("Sqrt(%d, %d, %d)", size, how, x), want, e, got, g)
	}
}

// P2.2, against the oracle: roots of edges, of any reals, of squares and of what is next to them.
func TestRoots(t *testing.T) {
	random := source()
	for _, size := range goodSizes {
		for _, x := range edges(size) {
			holdSqrt(t, size, x)
		}
		for range 500 {
			holdSqrt(t, size, some(random, size, -400, 801))
			root := int64(1)
			for nines(size)/root/root >= 10 {
				root *= 10
			}
			root += random.Int64N(2 * root)
			for _, m := range []int64{root*root - 1, root * root, root*root + 1, root * (root + 1)} {
				if m%10 != 0 && m <= nines(size) {
					e := random.IntN(801) - 400
					holdSqrt(t, size, r(m, e))
				}
			}
		}
	}
}

// P2.1, against the oracle: Make with m at the ends of its type, and exponents that become reals, overflow and underflow.
func TestMakeEdges(t *testing.T) {
	random := source()
	exponents := []int{-2000, -1001, -1000, -999, -500, -425, 0, 1, 425, 500, 999, 1000, 1001, 2000}
	for e := range 25 {
		exponents = append(exponents, -420+e, -12+e, 395+e)
	}
	for _, size := range goodSizes {
		numbers := []int64{0, -1 << 63, -1<<63 + 1, 1<<63 - 1, 1<<63 - 8, 1e18, 1e18 + 5, -1e18}
		for _, n := range []int64{1, 4, 5, 6, 10, 15, 25, 35, 49, 50, 51, 95, 99, 100, 1000, 12345675, 12345665, 9999999, 99999994, 99999995, 99999996, 10000005, 999999999999999, 9999999999999994, 9999999999999995, 9999999999999996, 999999999999999999, 1e15 + 5, 1e16 + 15, random.Int64(), random.Int64()} {
			numbers = append(numbers, n, -n)
		}
		for _, m := range numbers {
			for _, e := range exponents {
				for _, how := range directions {
					want, c := wantRounded(size, how, rational(fraction(m, e)))
					got, g := reals.Make(size, how, m, e)
					expect(t, fmt.Sprintf("Make(%d, %d, %d, %d)", size, how, m, e), want, c, got, g)
				}
			}
		}
	}
}

// P2.5, against the oracle: Shorten rounds to the size before.
func TestShortenEdges(t *testing.T) {
	random := source()
	for _, size := range []int{api.Plain, api.Long} {
		list := edges(size)
		for range 500 {
			list = append(list, some(random, size, -400, 801), some(random, size, -400, 20), some(random, size, 385, 16))
		}
		for _, x := range list {
			for _, how := range directions {
				want, e := wantRounded(size-1, how, rational(fractionOf(x)))
				got, g := reals.Shorten(size, how, x)
				expect(t, fmt.Sprintf("Shorten(%d, %d, %d)", size, how, x), want, e, got, g)
			}
		}
	}
}

// wantPow multiplies by what Mul must return, one after the other.
func wantPow(size int, x api.Real, n int64) (api.Real, api.Errno) {
	if n < -1000 || n > 1000 {
		return api.Real{}, api.ErrRange
	}
	p, e := r(1, 0), api.OK
	for range max(n, -n) {
		if p, e = wantRounded(size, reals.Nearest, wantBinary("Mul", p, x)); e != api.OK {
			return api.Real{}, e
		}
	}
	if n >= 0 {
		return p, api.OK
	}
	if p.M == 0 {
		return api.Real{}, api.ErrRange
	}
	return wantRounded(size, reals.Nearest, wantBinary("Div", r(1, 0), p))
}

// P2.3, against the oracle.
func TestPowers(t *testing.T) {
	random := source()
	for _, size := range goodSizes {
		list := both(r(1, 0), r(2, 0), r(3, 0), r(7, 0), r(5, -1), r(1, 1), r(1, -1), r(1, -400), r(1, 400), r(11, -1), r(9, -1), r(nines(size), 0), r(1000001, -6), r(nines(size), 400), some(random, size, -3, 2), some(random, size, -8, 4), api.Real{})
		for _, x := range list {
			for _, n := range []int64{0, 1, 2, 3, 5, 10, 29, 40, 401, 1000, 1001, -1, -2, -3, -10, -400, -414, -1000, -1001, 1<<63 - 1, -1 << 63, -1<<63 + 1} {
				want, e := wantPow(size, x, n)
				got, g := reals.Pow(size, x, n)
				expect(t, fmt.Sprintf("Pow(%d, %d, %d)", size, x, n), want, e, got, g)
			}
		}
	}
}

// wantInteger rounds to a whole number: Entier downwards, Round to the nearest, halves away from 0.
func wantInteger(name string, size int, x api.Real) (int64, api.Errno) {
	a := rational(fractionOf(x))
	n, rest := a.in(0)
	if name == "Entier" && a.sign < 0 && rest != 0 || name == "Round" && rest >= 2 {
		n.Add(n, big.NewInt(1))
	}
	greatest := map[int]string{api.Short: "32767", api.Plain: "2147483647", api.Long: "999999999999999999"}[size]
	limit, _ := new(big.Int).SetString(greatest, 10)
	if n.Cmp(limit) > 0 {
		return 0, api.ErrRange
	}
	return int64(a.sign) * n.Int64(), api.OK
}

// P2.4, against the oracle: Entier and Round.
func TestIntegers(t *testing.T) {
	random := source()
	for _, size := range goodSizes {
		list := append(edges(size), both(r(32767, 0), r(327675, -1), r(327674, -1), r(32768, 0), r(327665, -1), r(3276701, -2), r(3276751, -2), r(3276749, -2))...)
		if size != api.Short {
			list = append(list, both(r(2147483647, 0), r(21474836475, -1), r(21474836474, -1), r(2147483648, 0), r(214748364701, -2))...)
		}
		if size == api.Long {
			list = append(list, both(r(999999999999999995, -1), r(99999999999999999, 1), r(1, 17), r(9, 17), r(123456789, 9), r(123456789, 10))...)
		}
		for range 1000 {
			list = append(list, some(random, size, -22, 40), some(random, size, -400, 801))
		}
		for _, x := range list {
			for name, f := range integrals() {
				want, e := wantInteger(name, size, x)
				got, g := f(size, x)
				if want != got || e != g {
					t.Errorf("%s(%d, %d) is %d, %d, not %d, %d", name, size, x, got, int(g), want, int(e))
				}
			}
		}
	}
}

// P2.4, against the oracle: Compare, also of Reals that are not valid.
func TestCompareNumbers(t *testing.T) {
	random := source()
	list := append(edges(api.Short), edges(api.Long)...)
	list = append(list, both(r(10, 0), r(100, -1), r(1, 500), r(1, -500), r(1<<63-1, 0), r(1<<63-1, 19), r(1, 37), r(1, 38), r(1<<63-1, -18), r(1<<63-1, -19), r(1e18, -17), r(1e17, -16))...)
	list = append(list, r(-1<<63, 0), r(-1<<63, 1), r(-1<<63, -1), r(-1<<63, -19), r(0, 7), r(0, -7))
	for range 60 {
		list = append(list, r(random.Int64(), random.IntN(40)-20), r(-random.Int64N(1000), random.IntN(40)-20))
	}
	for _, x := range list {
		for _, y := range list {
			if want, got := fractionOf(x).Cmp(fractionOf(y)), reals.Compare(x, y); want != got {
				t.Errorf("Compare(%d, %d) is %d, not %d", x, y, got, want)
			}
		}
	}
}
