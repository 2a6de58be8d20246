package display

import (
	"bytes"
	"strconv"
	"strings"

	"netlab/api"
	"netlab/literal"
)

const timeWidth = 20 // the minimum width of a time if none is given

// output returns what a piece yields; arg is its argument, if it uses one.
func (p piece) output(arg api.Vec, time int64) string {
	switch p.letter {
	case 'b', 'o', 'h':
		return p.number(digits(arg, p.letter))
	case 'd':
		return padded(digits(arg, 'd'), " ", p.widthOr(longest(arg)))
	case 'c':
		all := bytesOf(arg)
		return string(all[len(all)-1:])
	case 's':
		return padded(string(bytes.TrimLeft(bytesOf(arg), "\x00")), " ", p.widthOr(0))
	case 't':
		return padded(strconv.FormatInt(time, 10), " ", p.widthOr(timeWidth))
	}
	return p.text
}

// widthOr returns the minimum width of a conversion, or width if none is given.
func (p piece) widthOr(width int) int {
	if p.width == noWidth {
		return width
	}
	return p.width
}

// number returns digits in a base that is a power of 2, whose number of leading zeros the minimum width determines.
func (p piece) number(digits string) string {
	if p.width == noWidth {
		return digits
	}
	significant := strings.TrimLeft(digits, "0")
	if significant == "" {
		significant = "0"
	}
	return padded(significant, "0", p.width)
}

// padded returns s with copies of fill, which is a single byte, added on the left up to a width.
func padded(s, fill string, width int) string {
	return strings.Repeat(fill, max(0, width-len(s))) + s
}

// digits returns the digits of a valid vector.
func digits(v api.Vec, base byte) string {
	s, _ := literal.Digits(v, base) // which accepts all valid vectors and the letters of conversions
	return s
}

// longest returns the greatest length of the digits in base 10 of known vectors with the width and sign of v.
func longest(v api.Vec) int {
	top := len(v.Bits) - 1
	extreme := api.Vec{Bits: make([]api.Bit, len(v.Bits)), Signed: v.Signed}
	for i := range extreme.Bits {
		if i == top || !v.Signed { // the least value of signed vectors, the greatest of unsigned ones
			extreme.Bits[i] = api.B1
		}
	}
	return len(digits(extreme, 'd'))
}

// bytesOf returns the bytes of the bits of v, the most significant byte first; only bits 1 count.
func bytesOf(v api.Vec) []byte {
	l := make([]byte, (len(v.Bits)+7)/8)
	for i, b := range v.Bits {
		if b == api.B1 {
			l[len(l)-1-i/8] |= 1 << (i % 8)
		}
	}
	return l
}
