package ints_test

import (
	"fmt"
	"testing"

	"environ/api"
	"environ/ints"
)

// integers and words are the edges that are an integer, a word of a size.

func integers(size int) []int64 {
	var l []int64
	for _, n := range edges() {
		if ints.Is(size, n) {
			l = append(l, n)
		}
	}
	return l
}

func words(size int) []int64 {
	var l []int64
	for _, w := range edges() {
		if ints.IsWord(size, w) {
			l = append(l, w)
		}
	}
	return l
}

// must returns a result that has to be without an error.
func must(t *testing.T, n int64, e api.Errno) int64 {
	t.Helper()
	if e != api.OK {
		t.Fatal("error", int(e))
	}
	return n
}

func magnitude(n int64) int64 { return max(n, -n) }

// P1.5: a is the quotient times b plus a remainder that has the sign of a.
func TestRemainders(t *testing.T) {
	for _, size := range goodSizes {
		for _, a := range integers(size) {
			for _, b := range integers(size) {
				if b == 0 {
					continue
				}
				q, e := ints.Over(size, a, b)
				p, f := ints.Mul(size, must(t, q, e), b)
				r, g := ints.Sub(size, a, must(t, p, f))
				must(t, r, g)
				if magnitude(r) >= magnitude(b) || r < 0 && a > 0 || r > 0 && a < 0 {
					t.Error(size, a, b, "have the quotient", q, "and the remainder", r)
				}
			}
		}
	}
}

// P1.5: sums and products do not depend on the order.
func TestOrderOfOperands(t *testing.T) {
	for _, name := range []string{"Add", "Mul"} {
		f := binaries()[name]
		for _, size := range goodSizes {
			for _, a := range integers(size) {
				for _, b := range integers(size) {
					n, e := f(size, a, b)
					m, g := f(size, b, a)
					expect(t, fmt.Sprint(name, size, b, a), n, e, m, g)
				}
			}
		}
	}
}

// P1.5: Not undoes itself, and Not of And is Or of the Nots.
func TestNots(t *testing.T) {
	for _, size := range goodSizes {
		for _, v := range words(size) {
			notV, e := ints.Not(size, v)
			back, f := ints.Not(size, must(t, notV, e))
			expect(t, "Not of Not", v, api.OK, back, f)
			for _, w := range words(size) {
				notW, e := ints.Not(size, w)
				both, f := ints.And(size, v, w)
				want, g := ints.Not(size, must(t, both, f))
				one, h := ints.Or(size, notV, must(t, notW, e))
				expect(t, "Or of the Nots", want, g, one, h)
			}
		}
	}
}

// P1.5: shifting to the left and back gives the word, if no 1 was lost.
func TestShiftsBack(t *testing.T) {
	for _, size := range goodSizes {
		width, _ := ints.Width(size)
		for _, w := range words(size) {
			for n := range int64(width) {
				there, e := ints.Shift(size, w, n)
				back, f := ints.Shift(size, must(t, there, e), -n)
				kept := w
				for i := range n { // the first n bits are the ones that leave
					if lost, _ := ints.Elem(size, i+1, w); lost {
						kept -= 1 << (int64(width) - 1 - i)
					}
				}
				expect(t, fmt.Sprint("back from ", size, w, n), kept, api.OK, back, f)
			}
		}
	}
}

// P1.5: Shorten undoes Leng, and ShortenWord LengWord.
func TestShortenUndoesLeng(t *testing.T) {
	for _, size := range []int{api.Short, api.Plain} {
		for _, a := range integers(size) {
			there, e := ints.Leng(size, a)
			back, f := ints.Shorten(size+1, must(t, there, e))
			expect(t, "Shorten of Leng", a, api.OK, back, f)
		}
		for _, w := range words(size) {
			there, e := ints.LengWord(size, w)
			back, f := ints.ShortenWord(size+1, must(t, there, e))
			expect(t, "ShortenWord of LengWord", w, api.OK, back, f)
		}
	}
}

// everyCall makes each call of each function with each edge, and gives it with its result to see.
func everyCall(see func(call string, n int64, e api.Errno)) {
	numbers := edges()
	for _, size := range append(append([]int{}, goodSizes...), badSizes...) {
		for name, f := range unaries() {
			for _, a := range numbers {
				n, e := f(size, a)
				see(fmt.Sprint(name, " ", size, " ", a), n, e)
			}
		}
		for name, f := range binaries() {
			for _, a := range numbers {
				for i := 0; i < len(numbers); i += 3 { // all pairs are seen by the oracle
					b := numbers[i]
					n, e := f(size, a, b)
					see(fmt.Sprint(name, " ", size, " ", a, " ", b), n, e)
				}
			}
		}
	}
}

// P1: every call returns, and with an error its result is 0.
func TestErrorsHaveNoResult(t *testing.T) {
	everyCall(func(call string, n int64, e api.Errno) {
		if e != api.OK && n != 0 {
			t.Error(call, "has the error", int(e), "and the result", n)
		}
		if e != api.OK && e != api.ErrArg && e != api.ErrRange {
			t.Error(call, "has the error", int(e))
		}
	})
}

// P2: equal calls have equal results, whatever was called between them.
func TestEqualCalls(t *testing.T) {
	type result struct {
		n int64
		e api.Errno
	}
	before := map[string]result{}
	everyCall(func(call string, n int64, e api.Errno) { before[call] = result{n, e} })
	everyCall(func(call string, n int64, e api.Errno) {
		if before[call] != (result{n, e}) {
			t.Error(call, "is", n, int(e), "and was", before[call].n, int(before[call].e))
		}
	})
}
