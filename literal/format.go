package literal

import (
	"slices"
	"strconv"

	"netlab/api"
	"netlab/bit"
	"netlab/bv"
	"netlab/vec"
)

// Format returns the literal of v in a base, if there is one.
func Format(v api.Vec, base byte) (string, api.Errno) {
	digits, e := Digits(v, base)
	if e != api.OK {
		return "", e
	}
	letters := string(rune(base))
	if v.Signed {
		letters = "s" + letters
	}
	text := strconv.Itoa(len(v.Bits)) + "'" + letters + digits
	if back, _, e := Parse(text, 0); e != api.OK || !vec.Same(back, v) {
		return "", api.ErrNone
	}
	return text, api.OK
}

// Digits returns the digits of v in a base.
func Digits(v api.Vec, base byte) (string, api.Errno) {
	if e := vec.Check(v); e != api.OK {
		return "", e
	}
	r, is := radixOf(base)
	switch {
	case !is:
		return "", api.ErrKind
	case r.group > 0:
		return groups(v.Bits, r.group), api.OK
	case vec.Known(v):
		return decimal(v), api.OK
	}
	return groups(v.Bits, len(v.Bits)), api.OK
}

// groups returns the characters of the groups of that many bits, the most significant group first.
func groups(bits []api.Bit, size int) string {
	var chars []byte
	for group := range slices.Chunk(bits, size) {
		chars = append(chars, character(group))
	}
	slices.Reverse(chars)
	return string(chars)
}

// character returns the character of a group, which has at most four bits if they are all known.
func character(group []api.Bit) byte {
	if n, known := vec.Int(api.Vec{Bits: group}); known {
		return digitChars[n]
	}
	differs := func(b api.Bit) bool { return b != group[0] }
	switch {
	case !slices.ContainsFunc(group, differs):
		return bit.Char(group[0])
	case slices.Contains(group, api.BX):
		return 'X'
	}
	return 'Z'
}

// decimal returns the value of a known vector in decimal.
func decimal(v api.Vec) string {
	n := make([]bool, len(v.Bits))
	for i, b := range v.Bits {
		n[i] = b == api.B1
	}
	if negative := v.Signed && n[len(n)-1]; negative {
		return "-" + unsignedDecimal(bv.Neg(n))
	}
	return unsignedDecimal(n)
}

// unsignedDecimal returns the unsigned value of n in decimal.
func unsignedDecimal(n []bool) string {
	chars := []byte{'0'} // the least significant first
	for _, carry := range slices.Backward(n) {
		for i, c := range chars {
			chars[i], carry = double(c, carry)
		}
		if carry {
			chars = append(chars, '1')
		}
	}
	slices.Reverse(chars)
	return string(chars)
}

// double returns twice the decimal digit c, plus 1 with a carry, and whether there is a carry to the next digit.
func double(c byte, carry bool) (twice byte, carries bool) {
	n := 2 * (c - '0')
	if carry {
		n++
	}
	return '0' + n%10, n >= 10
}
