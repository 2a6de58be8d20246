package vec

import (
	"netlab/api"
	"netlab/bit"
	"netlab/bv"
)

// Not negates each bit of a.
func Not(a api.Vec) api.Vec {
	a = operand(a)
	return build(len(a.Bits), a.Signed, func(i int) api.Bit { return bit.Not(a.Bits[i]) })
}

// And returns the conjunction of a and b, bit by bit.
func And(a, b api.Vec) api.Vec { return bitwise(a, b, bit.And) }

// Or returns the disjunction of a and b, bit by bit.
func Or(a, b api.Vec) api.Vec { return bitwise(a, b, bit.Or) }

// Xor tells in which bits a and b differ.
func Xor(a, b api.Vec) api.Vec { return bitwise(a, b, bit.Xor) }

// Xnor tells in which bits a and b are equal.
func Xnor(a, b api.Vec) api.Vec { return bitwise(a, b, bit.Eq) }

// bitwise applies f to each pair of bits of the balanced operands.
func bitwise(a, b api.Vec, f func(x, y api.Bit) api.Bit) api.Vec {
	a, b = balance(a, b)
	return build(len(a.Bits), a.Signed, func(i int) api.Bit { return f(a.Bits[i], b.Bits[i]) })
}

// RedAnd returns the conjunction of all bits of a.
func RedAnd(a api.Vec) api.Vec { return single(reduce(a, bit.And)) }

// RedOr returns the disjunction of all bits of a.
func RedOr(a api.Vec) api.Vec { return single(reduce(a, bit.Or)) }

// RedXor returns the parity of a.
func RedXor(a api.Vec) api.Vec { return single(reduce(a, bit.Xor)) }

// RedNand returns the negation of RedAnd.
func RedNand(a api.Vec) api.Vec { return Not(RedAnd(a)) }

// RedNor returns the negation of RedOr.
func RedNor(a api.Vec) api.Vec { return Not(RedOr(a)) }

// RedXnor returns the negation of RedXor.
func RedXnor(a api.Vec) api.Vec { return Not(RedXor(a)) }

// reduce combines all bits of a by f.
func reduce(a api.Vec, f func(x, y api.Bit) api.Bit) api.Bit {
	a = operand(a)
	r := bit.Buf(a.Bits[0])
	for _, b := range a.Bits[1:] {
		r = f(r, b)
	}
	return r
}

// LNot negates the truth of a.
func LNot(a api.Vec) api.Vec { return single(bit.Not(Truth(a))) }

// LAnd returns the conjunction of the truths of a and b.
func LAnd(a, b api.Vec) api.Vec { return single(bit.And(Truth(a), Truth(b))) }

// LOr returns the disjunction of the truths of a and b.
func LOr(a, b api.Vec) api.Vec { return single(bit.Or(Truth(a), Truth(b))) }

// Add returns a + b.
func Add(a, b api.Vec) api.Vec { return arithmetic(a, b, bv.Add) }

// Sub returns a - b.
func Sub(a, b api.Vec) api.Vec { return arithmetic(a, b, bv.Sub) }

// Mul returns a * b.
func Mul(a, b api.Vec) api.Vec { return arithmetic(a, b, bv.Mul) }

// Div returns the quotient of a and b.
func Div(a, b api.Vec) api.Vec {
	return divide(a, b, func(q, r []bool) []bool { return q })
}

// Mod returns the remainder of a and b.
func Mod(a, b api.Vec) api.Vec {
	return divide(a, b, func(q, r []bool) []bool { return r })
}

// Neg returns -a.
func Neg(a api.Vec) api.Vec {
	a = operand(a)
	zero := build(len(a.Bits), a.Signed, func(int) api.Bit { return api.B0 })
	return Sub(zero, a)
}

// arithmetic applies f to the balanced operands; the result is unknown if one of them is, or if f has none.
func arithmetic(a, b api.Vec, f func(x, y []bool) []bool) api.Vec {
	a, b = balance(a, b)
	if Known(a) && Known(b) {
		if n := f(number(a), number(b)); n != nil {
			return fromNumber(n, a.Signed)
		}
	}
	return unknown(len(a.Bits), a.Signed)
}

// divide returns what pick takes of the quotient and the remainder.
func divide(a, b api.Vec, pick func(q, r []bool) []bool) api.Vec {
	division := bv.DivMod
	if operand(a).Signed && operand(b).Signed {
		division = bv.SDivMod
	}
	return arithmetic(a, b, func(x, y []bool) []bool {
		q, r, e := division(x, y)
		if e != api.OK {
			return nil
		}
		return pick(q, r)
	})
}

// Pow returns a to the power of b.
func Pow(a, b api.Vec) api.Vec {
	a, b = operand(a), operand(b)
	width := len(a.Bits)
	if !Known(a) || !Known(b) {
		return unknown(width, a.Signed)
	}
	if filler(b) == api.B1 { // a negative exponent
		base, fits := Int(a)
		switch {
		case fits && base == 0:
			return unknown(width, a.Signed)
		case base != 1 && base != -1:
			return build(width, a.Signed, func(int) api.Bit { return api.B0 })
		}
	}
	// The powers of 1 and -1 depend only on whether the exponent is odd: its lowest bit tells, also if it is negative.
	return fromNumber(bv.Pow(number(a), number(b)), a.Signed)
}

// Eq reports whether a and b are equal, as far as is known.
func Eq(a, b api.Vec) api.Vec { return RedAnd(bitwise(a, b, bit.Eq)) }

// Ne returns the negation of Eq.
func Ne(a, b api.Vec) api.Vec { return Not(Eq(a, b)) }

// Lt reports whether a < b.
func Lt(a, b api.Vec) api.Vec { return compare(a, b, func(order int) bool { return order < 0 }) }

// Le reports whether a <= b.
func Le(a, b api.Vec) api.Vec { return compare(a, b, func(order int) bool { return order <= 0 }) }

// Gt reports whether a > b.
func Gt(a, b api.Vec) api.Vec { return compare(a, b, func(order int) bool { return order > 0 }) }

// Ge reports whether a >= b.
func Ge(a, b api.Vec) api.Vec { return compare(a, b, func(order int) bool { return order >= 0 }) }

// compare tells whether the order of the values of a and b is one that holds accepts.
func compare(a, b api.Vec, holds func(order int) bool) api.Vec {
	a, b = balance(a, b)
	if !Known(a) || !Known(b) {
		return single(api.BX)
	}
	order := bv.Cmp
	if a.Signed {
		order = bv.SCmp
	}
	return single(bit.FromBool(holds(order(number(a), number(b)))))
}

// CaseEq reports whether all bits of a and b are the same of the four values.
func CaseEq(a, b api.Vec) api.Vec {
	return single(bit.FromBool(match(a, b, func(api.Bit) bool { return false })))
}

// CaseNe returns the negation of CaseEq.
func CaseNe(a, b api.Vec) api.Vec { return Not(CaseEq(a, b)) }

// MatchZ reports whether all bits of a and b are the same, apart from pairs with a z.
func MatchZ(a, b api.Vec) bool {
	return match(a, b, func(x api.Bit) bool { return x == api.BZ })
}

// MatchX reports whether all bits of a and b are the same, apart from pairs with an x or z.
func MatchX(a, b api.Vec) bool {
	return match(a, b, func(x api.Bit) bool { return !bit.Known(x) })
}

// match reports whether all bits of the balanced operands are the same, apart from pairs with a bit that is wild.
func match(a, b api.Vec, wild func(x api.Bit) bool) bool {
	a, b = balance(a, b)
	for i, x := range a.Bits {
		y := b.Bits[i]
		if !bit.Same(x, y) && !wild(x) && !wild(y) {
			return false
		}
	}
	return true
}

// Shl shifts a to the left.
func Shl(a, b api.Vec) api.Vec {
	return shift(a, b, api.B0, func(i, n int) int { return i - n })
}

// Shr shifts a to the right, with 0 from the left.
func Shr(a, b api.Vec) api.Vec {
	return shift(a, b, api.B0, func(i, n int) int { return i + n })
}

// AShl equals Shl.
func AShl(a, b api.Vec) api.Vec { return Shl(a, b) }

// AShr shifts a to the right, with copies of its most significant bit from the left if it is signed.
func AShr(a, b api.Vec) api.Vec {
	return shift(a, b, filler(operand(a)), func(i, n int) int { return i + n })
}

// shift returns the vector whose bit i is the bit of a at from(i, n), where n is the value of b, or free if a has none there.
func shift(a, b api.Vec, free api.Bit, from func(i, n int) int) api.Vec {
	a, b = operand(a), operand(b)
	width := len(a.Bits)
	if !Known(b) {
		return unknown(width, a.Signed)
	}
	n := width // for all greater distances too
	if distance, fits := bv.Uint(number(b)); fits && distance < uint64(width) {
		n = int(distance)
	}
	return build(width, a.Signed, func(i int) api.Bit { return at(a, from(i, n), free) })
}

// Cond returns a if sel is true, b if it is false, and otherwise what they have in common.
func Cond(sel, a, b api.Vec) api.Vec {
	truth := Truth(sel)
	return bitwise(a, b, func(x, y api.Bit) api.Bit {
		switch truth {
		case api.B1:
			return x
		case api.B0:
			return y
		}
		return bit.Mux(api.BX, x, y)
	})
}
