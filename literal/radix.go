package literal

import (
	"slices"
	"strings"

	"netlab/api"
	"netlab/bit"
	"netlab/bv"
)

// digitChars holds the characters of digits by value.
const digitChars = "0123456789abcdef"

// radix describes the digits of a base.
type radix struct {
	group int                  // the number of bits for which a digit stands; 0 in base 10, where it has none of its own
	value func(digit rune) int // of a known digit in lower case; -1 for any other character
}

// radixOf returns the radix with a base letter in lower case, and false for any other character.
func radixOf(letter byte) (radix, bool) {
	switch letter {
	case 'b':
		return radix{group: 1, value: below(2)}, true
	case 'o':
		return radix{group: 3, value: below(8)}, true
	case 'd':
		return radix{group: 0, value: below(10)}, true
	case 'h':
		return radix{group: 4, value: below(16)}, true
	}
	return radix{}, false
}

// below returns the function for the values of the digits of a base.
func below(base int) func(digit rune) int {
	return func(digit rune) int { return strings.IndexRune(digitChars[:base], digit) }
}

// unknown returns the bit of a digit that is x or z, and false for any other character.
func unknown(digit rune) (api.Bit, bool) {
	b, is := bit.Parse(byte(digit)) // digits are ASCII
	if !is || bit.Known(b) {
		return api.B0, false
	}
	return b, true
}

// accepts reports whether the literals of the base may have these digits.
func (r radix) accepts(digits string) bool {
	mayBeUnknown := r.group > 0 || len(digits) == 1
	for _, c := range digits {
		_, isUnknown := unknown(c)
		if r.value(c) < 0 && !(isUnknown && mayBeUnknown) {
			return false
		}
	}
	return digits != ""
}

// bits returns the bits that accepted digits denote in a vector of that width.
func (r radix) bits(digits string, width int) []api.Bit {
	fill, isUnknown := unknown(rune(digits[0]))
	var low []api.Bit // none for x or z in base 10, which fill all of the vector
	switch {
	case r.group > 0:
		low = r.spread(digits)
	case !isUnknown:
		low = r.number(digits, width)
	}
	bits := slices.Repeat([]api.Bit{fill}, width)
	copy(bits, low)
	return bits
}

// spread returns the bits for which the digits stand one by one, the least significant first.
func (r radix) spread(digits string) []api.Bit {
	var bits []api.Bit
	for _, c := range digits {
		for i := range r.group {
			bits = append(bits, r.bit(c, r.group-1-i))
		}
	}
	slices.Reverse(bits)
	return bits
}

// bit returns bit i of a digit.
func (r radix) bit(digit rune, i int) api.Bit {
	if b, is := unknown(digit); is {
		return b
	}
	return bit.FromBool(r.value(digit)>>i&1 == 1)
}

// number returns the bits of a decimal number modulo 2^width.
func (r radix) number(digits string, width int) []api.Bit {
	integer := func(n int) []bool {
		a, _ := bv.FromInt(int64(n), width) // which accepts the width of a vector
		return a
	}
	n := integer(0)
	for _, c := range digits {
		n = bv.Add(bv.Mul(n, integer(10)), integer(r.value(c)))
	}
	bits := make([]api.Bit, width)
	for i, b := range n {
		bits[i] = bit.FromBool(b)
	}
	return bits
}
