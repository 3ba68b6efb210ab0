package reals_test

import (
	"fmt"
	"math/big"
	"testing"

	"environ/api"
	"environ/reals"
)

// sample returns edges of a size and other reals of it.
func sample(size int) []api.Real {
	random := source()
	list := edges(size)
	for range 40 {
		list = append(list, some(random, size, -10, 20), some(random, size, -400, 801))
	}
	return list
}

// P2.6: equal numbers have equal forms.
func TestEqualForms(t *testing.T) {
	for _, size := range goodSizes {
		for _, m := range []int64{1, -1, 3, -70, 99, 1230, -5000000} {
			want, e := reals.Make(size, reals.Nearest, m, 0)
			for k, zeros := 1, int64(10); k < 12; k, zeros = k+1, zeros*10 {
				for _, how := range directions {
					got, g := reals.Make(size, how, m*zeros, -k)
					expect(t, fmt.Sprint("Make of ", m, " with ", k, " zeros"), want, e, got, g)
				}
			}
		}
		for _, x := range sample(size) {
			for _, y := range sample(size) {
				if (reals.Compare(x, y) == 0) != (x == y) {
					t.Errorf("Compare(%d, %d) is %d", x, y, reals.Compare(x, y))
				}
			}
		}
	}
}

// exactly returns what an operation gives before it is rounded.
func exactly(name string, x, y api.Real) (*big.Rat, bool) {
	a, b := fractionOf(x), fractionOf(y)
	switch name {
	case "Add":
		return a.Add(a, b), true
	case "Sub":
		return a.Sub(a, b), true
	case "Mul":
		return a.Mul(a, b), true
	}
	if y.M == 0 {
		return nil, false
	}
	return a.Quo(a, b), true
}

// P2.6: Down is at most the exact result, Up at least, and one of them is Nearest; if they are equal, it is exact. Zero is the one of them that is nearer to 0.
func TestNeighbours(t *testing.T) {
	for _, size := range goodSizes {
		list := sample(size)
		for i, x := range list {
			for j, y := range list {
				if (i*7+j)%10 == 0 {
					holdNeighbours(t, size, x, y)
				}
			}
		}
	}
}

func holdNeighbours(t *testing.T, size int, x, y api.Real) {
	t.Helper()
	for name, f := range binaries() {
		exact, ok := exactly(name, x, y)
		if !ok {
			continue
		}
		low, lowErrno := f(size, reals.Down, x, y)
		high, highErrno := f(size, reals.Up, x, y)
		nearest, nearestErrno := f(size, reals.Nearest, x, y)
		inner, innerErrno := f(size, reals.Zero, x, y)
		call := fmt.Sprintf("%s(%d, .., %d, %d)", name, size, x, y)
		if lowErrno == api.OK && fractionOf(low).Cmp(exact) > 0 || highErrno == api.OK && fractionOf(high).Cmp(exact) < 0 {
			t.Error(call, "is between", low, "and", high)
		}
		if innerErrno != api.OK || exact.Sign() >= 0 && inner != low || exact.Sign() <= 0 && inner != high {
			t.Error(call, "towards 0 is", inner, "with", low, "and", high)
		}
		if lowErrno != api.OK || highErrno != api.OK {
			continue
		}
		if nearestErrno != api.OK || nearest != low && nearest != high {
			t.Error(call, "is nearest to", nearest, "with", low, "and", high)
		}
		if (low == high) != (fractionOf(low).Cmp(exact) == 0) {
			t.Error(call, "is exact, or not, with", low, "and", high)
		}
	}
}

// P2.6: Add and Mul do not depend on the order.
func TestOrderOfOperands(t *testing.T) {
	for _, size := range goodSizes {
		list := sample(size)
		for _, x := range list {
			for _, y := range list {
				for _, how := range directions {
					want, e := reals.Add(size, how, x, y)
					got, g := reals.Add(size, how, y, x)
					expect(t, fmt.Sprint("Add ", size, how, y, x), want, e, got, g)
					want, e = reals.Mul(size, how, x, y)
					got, g = reals.Mul(size, how, y, x)
					expect(t, fmt.Sprint("Mul ", size, how, y, x), want, e, got, g)
				}
			}
		}
	}
}

// P2.6: rounding keeps the order, of sums and of roots.
func TestOrderIsKept(t *testing.T) {
	for _, size := range goodSizes {
		list := sample(size)
		for i, x := range list {
			for j, y := range list {
				if reals.Compare(x, y) > 0 {
					continue
				}
				for _, how := range directions {
					z := list[(i*5+j*3)%len(list)]
					a, e := reals.Add(size, how, x, z)
					b, f := reals.Add(size, how, y, z)
					if e == api.OK && f == api.OK && reals.Compare(a, b) > 0 {
						t.Error(size, how, "sums of", x, y, "and", z, "are", a, b)
					}
					a, e = reals.Sqrt(size, how, x)
					b, f = reals.Sqrt(size, how, y)
					if e == api.OK && f == api.OK && reals.Compare(a, b) > 0 {
						t.Error(size, how, "roots of", x, y, "are", a, b)
					}
				}
			}
		}
	}
}

// P2.6: Shorten undoes Leng.
func TestShortenUndoesLeng(t *testing.T) {
	for _, size := range []int{api.Short, api.Plain} {
		for _, x := range sample(size) {
			there, e := reals.Leng(size, x)
			expect(t, fmt.Sprint("Leng ", size, x), x, api.OK, there, e)
			for _, how := range directions {
				back, e := reals.Shorten(size+1, how, there)
				expect(t, fmt.Sprint("Shorten of Leng ", size, x), x, api.OK, back, e)
			}
		}
	}
}

// P2.6: the root of a square that is exact is the absolute value.
func TestRootsOfSquares(t *testing.T) {
	for _, size := range goodSizes {
		held := 0
		for _, x := range sample(size) {
			square, e := reals.Mul(size, reals.Down, x, x)
			other, f := reals.Mul(size, reals.Up, x, x)
			if e != api.OK || f != api.OK || square != other {
				continue
			}
			held++
			want, e := reals.Abs(size, x)
			for _, how := range directions {
				got, g := reals.Sqrt(size, how, square)
				expect(t, fmt.Sprint("root of the square of ", size, x), want, e, got, g)
			}
		}
		if held < 20 {
			t.Error("only", held, "squares are exact")
		}
	}
}

// everyCall makes calls of each function, also with arguments that are none, and gives each with its result, and the size of that, to see.
func everyCall(see func(call string, size int, x api.Real, n int64, e api.Errno)) {
	list := append(edges(api.Short), invalid()...)
	for _, size := range append(append([]int{}, goodSizes...), badSizes[:4]...) {
		p, e := reals.Digits(size)
		see(fmt.Sprint("Digits ", size), size, api.Real{}, int64(p), e)
		for i, x := range list {
			for name, f := range integrals() {
				n, e := f(size, x)
				see(fmt.Sprint(name, " ", size, x), size, api.Real{}, n, e)
			}
			got, e := reals.Pow(size, x, int64(i)-60)
			see(fmt.Sprint("Pow ", size, x, i), size, got, 0, e)
			for _, how := range append(append([]int{}, directions...), badDirections[:3]...) {
				got, e := reals.Make(size, how, x.M, x.E)
				see(fmt.Sprint("Make ", size, how, x), size, got, 0, e)
				for name, f := range unaries() {
					to := size + map[string]int{"Leng": 1, "Shorten": -1}[name]
					got, e := f(size, how, x)
					see(fmt.Sprint(name, " ", size, how, x), to, got, 0, e)
				}
				for j := i % 11; j < len(list); j += 11 { // more pairs are seen by the oracle
					for name, f := range binaries() {
						got, e := f(size, how, x, list[j])
						see(fmt.Sprint(name, " ", size, how, x, list[j]), size, got, 0, e)
					}
				}
			}
		}
	}
}

// P1: every call returns; with an error its result is zero, and without one a Real is valid for its size.
func TestResults(t *testing.T) {
	everyCall(func(call string, size int, x api.Real, n int64, e api.Errno) {
		if e != api.OK && (n != 0 || x != api.Real{}) {
			t.Error(call, "has the error", int(e), "and the result", x, n)
		}
		if e != api.OK && e != api.ErrArg && e != api.ErrRange {
			t.Error(call, "has the error", int(e))
		}
		if e == api.OK && !reals.Valid(size, x) {
			t.Error(call, "is", x)
		}
	})
}

// P2: equal calls have equal results, whatever was called between them.
func TestEqualCalls(t *testing.T) {
	type result struct {
		x api.Real
		n int64
		e api.Errno
	}
	before := map[string]result{}
	everyCall(func(call string, _ int, x api.Real, n int64, e api.Errno) { before[call] = result{x, n, e} })
	everyCall(func(call string, _ int, x api.Real, n int64, e api.Errno) {
		if before[call] != (result{x, n, e}) {
			t.Error(call, "is", x, n, int(e), "and was", before[call])
		}
	})
}
