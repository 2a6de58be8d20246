// Package bit implements logic on single four-state bits.
package bit

import "netlab/api"

// The tables are indexed by states: 0, 1, x, z.
var (
	notTable = [4]api.Bit{api.B1, api.B0, api.BX, api.BX}
	bufTable = [4]api.Bit{api.B0, api.B1, api.BX, api.BX}
	andTable = [4][4]api.Bit{
		{api.B0, api.B0, api.B0, api.B0},
		{api.B0, api.B1, api.BX, api.BX},
		{api.B0, api.BX, api.BX, api.BX},
		{api.B0, api.BX, api.BX, api.BX},
	}
	orTable = [4][4]api.Bit{
		{api.B0, api.B1, api.BX, api.BX},
		{api.B1, api.B1, api.B1, api.B1},
		{api.BX, api.B1, api.BX, api.BX},
		{api.BX, api.B1, api.BX, api.BX},
	}
	xorTable = [4][4]api.Bit{
		{api.B0, api.B1, api.BX, api.BX},
		{api.B1, api.B0, api.BX, api.BX},
		{api.BX, api.BX, api.BX, api.BX},
		{api.BX, api.BX, api.BX, api.BX},
	}
	// commonTable is what is certain of a bit that is one of two.
	commonTable = [4][4]api.Bit{
		{api.B0, api.BX, api.BX, api.BX},
		{api.BX, api.B1, api.BX, api.BX},
		{api.BX, api.BX, api.BX, api.BX},
		{api.BX, api.BX, api.BX, api.BX},
	}
	charTable = [4]byte{'0', '1', 'x', 'z'}
)

// state returns the state of a bit, so that every value has an entry in the tables.
func state(a api.Bit) api.Bit {
	if a > api.BZ {
		return api.BX
	}
	return a
}

// Valid reports whether a is one of the four states.
func Valid(a api.Bit) bool { return a <= api.BZ }

// Known reports whether a is 0 or 1.
func Known(a api.Bit) bool { return a == api.B0 || a == api.B1 }

// Not returns the negation of a.
func Not(a api.Bit) api.Bit { return notTable[state(a)] }

// Buf returns a if it is known, and x otherwise.
func Buf(a api.Bit) api.Bit { return bufTable[state(a)] }

// And returns the conjunction of a and b.
func And(a, b api.Bit) api.Bit { return andTable[state(a)][state(b)] }

// Or returns the disjunction of a and b.
func Or(a, b api.Bit) api.Bit { return orTable[state(a)][state(b)] }

// Xor returns 1 if a and b are known and differ, and 0 if they are known and equal.
func Xor(a, b api.Bit) api.Bit { return xorTable[state(a)][state(b)] }

// Mux returns a if sel is 1, b if sel is 0, and otherwise what a and b have in common.
func Mux(sel, a, b api.Bit) api.Bit {
	switch sel {
	case api.B0:
		return Buf(b)
	case api.B1:
		return Buf(a)
	}
	return commonTable[state(a)][state(b)]
}

// Eq returns the negation of Xor.
func Eq(a, b api.Bit) api.Bit { return Not(Xor(a, b)) }

// Same reports whether a and b are the same state.
func Same(a, b api.Bit) bool { return state(a) == state(b) }

// Leq reports whether b is a or refines it.
func Leq(a, b api.Bit) bool { return Same(a, b) || !Known(a) && Known(b) }

// FromBool returns 1 for true and 0 for false.
func FromBool(v bool) api.Bit {
	if v {
		return api.B1
	}
	return api.B0
}

// Char returns the character of a: 0, 1, x or z.
func Char(a api.Bit) byte { return charTable[state(a)] }

// Parse returns the bit that a character denotes, and false if it denotes none.
func Parse(c byte) (api.Bit, bool) {
	switch c {
	case '0':
		return api.B0, true
	case '1':
		return api.B1, true
	case 'x', 'X':
		return api.BX, true
	case 'z', 'Z', '?':
		return api.BZ, true
	}
	return 0, false
}
