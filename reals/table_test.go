package reals_test

import (
	"fmt"
	"math"
	"math/rand/v2"
	"testing"

	"environ/api"
	"environ/reals"
)

// The functions with a result that is a Real, by what they take: everything that is tested of all of them goes through these tables. A function that takes no direction is not given the one it is called with.

type unary func(size, how int, x api.Real) (api.Real, api.Errno)
type binary func(size, how int, x, y api.Real) (api.Real, api.Errno)

func unaries() map[string]unary {
	return map[string]unary{
		"Sqrt":    reals.Sqrt,
		"Shorten": reals.Shorten,
		"Neg":     func(size, _ int, x api.Real) (api.Real, api.Errno) { return reals.Neg(size, x) },
		"Abs":     func(size, _ int, x api.Real) (api.Real, api.Errno) { return reals.Abs(size, x) },
		"Leng":    func(size, _ int, x api.Real) (api.Real, api.Errno) { return reals.Leng(size, x) },
	}
}

func binaries() map[string]binary {
	return map[string]binary{
		"Add": reals.Add,
		"Sub": reals.Sub,
		"Mul": reals.Mul,
		"Div": reals.Div,
	}
}

type integral func(size int, x api.Real) (int64, api.Errno)

func integrals() map[string]integral {
	return map[string]integral{"Entier": reals.Entier, "Round": reals.Round}
}

var goodSizes = []int{api.Short, api.Plain, api.Long}

var badSizes = []int{-2, 2, 3, -100, math.MinInt, math.MinInt + 1, math.MaxInt, math.MaxInt - 1, 1 << 40}

var directions = []int{reals.Nearest, reals.Up, reals.Down, reals.Zero}

var badDirections = []int{-1, 4, 5, -100, math.MinInt, math.MaxInt, 1 << 40}

func r(m int64, e int) api.Real { return api.Real{M: m, E: e} }

// nines is the greatest number of a size's digits.
func nines(size int) int64 {
	switch size {
	case api.Short:
		return 9999999
	case api.Plain:
		return 999999999999999
	}
	return 999999999999999999
}

// both returns the Reals, and those with the other sign.
func both(list ...api.Real) []api.Real {
	for _, x := range list {
		list = append(list, r(-x.M, x.E))
	}
	return list
}

// edges are reals of a size at the limits of its digits and exponents, in their middle, and at ties of the first and the last digit.
func edges(size int) []api.Real {
	top := nines(size)
	p := len(fmt.Sprint(top))
	list := []api.Real{
		r(1, 0), r(2, 0), r(3, 0), r(5, -1), r(4, -1), r(15, -1), r(25, -1), r(7, 3), r(1234567, -3),
		r(top, 0), r(top-1, 0), r(top-2, 0), r(top/2, 0), r(top/10*5+1, 0), r(1, p), r(1, p-1), r(1, -p), r(5, -p), r(5, -p-1), r(1, -2*p), r(1, 18), r(1, 19), r(1, 20), r(1, -19), r(1, -20), r(3, 21),
		r(top, -19), r(top, -20), r(top, 1), r(top, -1), r(top, 19),
		r(1, -400), r(2, -400), r(3, -400), r(5, -400), r(top, -400), r(5, -399), r(1, -200), r(1, -201), r(7, -200), r(top, -200), r(33, -201),
		r(1, 400), r(top, 400), r(top-1, 400), r(1, 400+p-1), r(9, 400+p-1), r(1, 399), r(1, 200), r(top, 200), r(top, 199), r(99, 210),
	}
	return append(both(list...), api.Real{})
}

// invalid are Reals that are valid for no size.
func invalid() []api.Real {
	return append(both(
		r(10, 0), r(100, -400), r(1000, 5), r(1, -401), r(1, 418), r(12, 417), r(1, 1000), r(1, -1000),
		r(1, math.MaxInt), r(1, math.MinInt), r(3, math.MinInt+1), r(1000000000000000001, 0), r(1e18, 0), r(math.MaxInt64, 0), r(math.MaxInt64, math.MaxInt), r(math.MaxInt64, math.MinInt),
	), r(0, 1), r(0, -1), r(0, 400), r(0, math.MaxInt), r(0, math.MinInt), r(math.MinInt64, 0), r(math.MinInt64, math.MaxInt), r(math.MinInt64, math.MinInt))
}

// source gives numbers that look like random ones, the same ones in each run.
func source() *rand.Rand { return rand.New(rand.NewPCG(2, 1968)) }

// some returns a valid real of a size with an exponent from low on, of the given number of exponents.
func some(random *rand.Rand, size, low, exponents int) api.Real {
	m := random.Int64N(nines(size)) + 1
	for range random.IntN(len(fmt.Sprint(m))) { // shorter numbers, too
		m /= 10
	}
	for m%10 == 0 {
		m++
	}
	if random.IntN(2) == 0 {
		m = -m
	}
	return r(m, low+random.IntN(exponents))
}

// expect fails the test unless a call has the result that it must have.
func expect(t *testing.T, call string, want api.Real, wantErrno api.Errno, got api.Real, gotErrno api.Errno) {
	t.Helper()
	if want != got || wantErrno != gotErrno {
		t.Errorf("%s is %d, %d, not %d, %d", call, got, int(gotErrno), want, int(wantErrno))
	}
}
