package ints

import "environ/api"

// mask returns the word all of whose bits are 1.
func mask(width int) int64 { return 1<<width - 1 }

// Not inverts all bits.
func Not(size int, w int64) (int64, api.Errno) {
	if e := checkWords(size, w); e != api.OK {
		return 0, e
	}
	l, _ := limits(size)
	return w ^ mask(l.width), api.OK
}

// And returns the word whose bits are 1 where those of both words are.
func And(size int, v, w int64) (int64, api.Errno) {
	if e := checkWords(size, v, w); e != api.OK {
		return 0, e
	}
	return v & w, api.OK
}

// Or returns the word whose bits are 1 where one of those of both words is.
func Or(size int, v, w int64) (int64, api.Errno) {
	if e := checkWords(size, v, w); e != api.OK {
		return 0, e
	}
	return v | w, api.OK
}

// Shift moves the bits n places to the left, or -n places to the right.
func Shift(size int, w, n int64) (int64, api.Errno) {
	if e := checkWords(size, w); e != api.OK {
		return 0, e
	}
	l, _ := limits(size)
	width := int64(l.width)
	switch {
	case n >= width || n <= -width:
		return 0, api.OK
	case n < 0:
		return w >> -n, api.OK
	}
	return w << n & mask(l.width), api.OK
}

// Elem reports whether bit i is 1; the most significant one is bit 1.
func Elem(size int, i, w int64) (bool, api.Errno) {
	if e := checkWords(size, w); e != api.OK {
		return false, e
	}
	l, _ := limits(size)
	width := int64(l.width)
	if i < 1 || i > width {
		return false, api.ErrRange
	}
	return w>>(width-i)&1 == 1, api.OK
}

// Bin returns the word that is the number a.
func Bin(size int, a int64) (int64, api.Errno) {
	if e := checkInts(size, a); e != api.OK {
		return 0, e
	}
	if !IsWord(size, a) {
		return 0, api.ErrRange
	}
	return a, api.OK
}

// AbsWord returns the word as an integer.
func AbsWord(size int, w int64) (int64, api.Errno) {
	if e := checkWords(size, w); e != api.OK {
		return 0, e
	}
	return integer(size, w)
}

// LengWord returns the word of the next size, with bits 0 in front.
func LengWord(size int, w int64) (int64, api.Errno) {
	if size == api.Long {
		return 0, api.ErrArg
	}
	if e := checkWords(size, w); e != api.OK {
		return 0, e
	}
	return w, api.OK
}

// ShortenWord returns the word of the size before, without the first bits, which must be 0.
func ShortenWord(size int, w int64) (int64, api.Errno) {
	if size == api.Short {
		return 0, api.ErrArg
	}
	if e := checkWords(size, w); e != api.OK {
		return 0, e
	}
	if !IsWord(size-1, w) {
		return 0, api.ErrRange
	}
	return w, api.OK
}
