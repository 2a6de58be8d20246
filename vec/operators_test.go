package vec_test

import (
	"math"
	"math/big"
	"strings"
	"testing"

	"netlab/api"
	"netlab/vec"
)

// P4.3: And, Or, Xor and Xnor balance their operands and combine each pair of bits.
func TestBitwise(t *testing.T) {
	for _, x := range []struct {
		name string
		f    func(a, b api.Vec) api.Vec
		want func(x, y byte) byte
	}{{"And", vec.And, and}, {"Or", vec.Or, or}, {"Xor", vec.Xor, xor}, {"Xnor", vec.Xnor, xnor}} {
		pairs(func(a, b api.Vec) {
			l, r, signed := balanced(a, b)
			is(t, x.name, x.f(a, b), written(pairwise(l, r, x.want), signed), a, b)
		})
	}
}

// P4.3: Not negates each bit and keeps width and sign.
func TestNot(t *testing.T) {
	for _, a := range all() {
		s := digits(a)
		is(t, "Not", vec.Not(a), written(pairwise(s, s, func(x, _ byte) byte { return not(x) }), a.Signed), a)
	}
}

// P4.3: the reductions combine all bits into a single one; that of a single bit b is Buf(b), or its negation.
func TestReductions(t *testing.T) {
	for _, x := range []struct {
		name        string
		f, negation func(a api.Vec) api.Vec
		combine     func(x, y byte) byte
	}{{"and", vec.RedAnd, vec.RedNand, and}, {"or", vec.RedOr, vec.RedNor, or}, {"xor", vec.RedXor, vec.RedXnor, xor}} {
		for _, a := range all() {
			s := digits(a)
			want := not(not(s[0]))
			for i := 1; i < len(s); i++ {
				want = x.combine(want, s[i])
			}
			is(t, "reduction by "+x.name, x.f(a), string(want), a)
			is(t, "reduction by n"+x.name, x.negation(a), string(not(want)), a)
		}
	}
}

// P4.3: the logical operators combine the truths of their operands into a single bit.
func TestLogical(t *testing.T) {
	for _, a := range all() {
		is(t, "LNot", vec.LNot(a), string(not(truth(digits(a)))), a)
	}
	pairs(func(a, b api.Vec) {
		x, y := truth(digits(a)), truth(digits(b))
		is(t, "LAnd", vec.LAnd(a, b), string(and(x, y)), a, b)
		is(t, "LOr", vec.LOr(a, b), string(or(x, y)), a, b)
	})
}

// operation is an operator of arithmetic, and its result for integers, or nil if there is none.
type operation struct {
	name string
	f    func(a, b api.Vec) api.Vec
	want func(x, y *big.Int) *big.Int
}

// operations returns the operators that balance their operands.
func operations() []operation {
	divided := func(f func(z, x, y *big.Int) *big.Int) func(x, y *big.Int) *big.Int {
		return func(x, y *big.Int) *big.Int {
			if y.Sign() == 0 {
				return nil
			}
			return f(new(big.Int), x, y)
		}
	}
	return []operation{
		{"Add", vec.Add, func(x, y *big.Int) *big.Int { return new(big.Int).Add(x, y) }},
		{"Sub", vec.Sub, func(x, y *big.Int) *big.Int { return new(big.Int).Sub(x, y) }},
		{"Mul", vec.Mul, func(x, y *big.Int) *big.Int { return new(big.Int).Mul(x, y) }},
		{"Div", vec.Div, divided((*big.Int).Quo)},
		{"Mod", vec.Mod, divided((*big.Int).Rem)},
	}
}

// result returns the text of an integer of a width, or that of x for nil.
func result(n *big.Int, width int, signed bool) string {
	if n == nil {
		return written(strings.Repeat("x", width), signed)
	}
	return written(binary(n, width), signed)
}

// P4.4, P4.9: arithmetic on known operands is that of the integers, modulo 2^width; otherwise all bits are x.
func TestArithmetic(t *testing.T) {
	for _, op := range operations() {
		pairs(func(a, b api.Vec) {
			x, y, signed := balanced(a, b)
			var want *big.Int
			if known(x) && known(y) {
				want = op.want(value(x, signed), value(y, signed))
			}
			is(t, op.name, op.f(a, b), result(want, len(x), signed), a, b)
		})
	}
}

// P4.4: division by 0 yields x, with the width and sign of the balanced operands.
func TestDivisionByZero(t *testing.T) {
	for _, a := range all() {
		for _, b := range []string{"0", "s0", "000", "s000", strings.Repeat("0", 128), "s" + strings.Repeat("0", 128)} {
			zero := of(b)
			want := result(nil, max(len(a.Bits), len(zero.Bits)), a.Signed && zero.Signed)
			is(t, "Div", vec.Div(a, zero), want, a, zero)
			is(t, "Mod", vec.Mod(a, zero), want, a, zero)
		}
	}
}

// P4.4: Neg is the difference of 0 and a, with the width and sign of a.
func TestNeg(t *testing.T) {
	for _, a := range all() {
		var want *big.Int
		if s := digits(a); known(s) {
			want = new(big.Int).Neg(value(s, a.Signed))
		}
		is(t, "Neg", vec.Neg(a), result(want, len(a.Bits), a.Signed), a)
	}
}

// power returns the power of two integers modulo 2^width by the rule for negative exponents, or nil if there is none.
func power(base, exponent *big.Int, width int) *big.Int {
	one := big.NewInt(1)
	switch {
	case exponent.Sign() >= 0:
		return new(big.Int).Exp(new(big.Int).Mod(base, power2(width)), exponent, power2(width))
	case base.Sign() == 0:
		return nil
	case base.CmpAbs(one) != 0:
		return new(big.Int)
	case base.Sign() < 0 && exponent.Bit(0) == 1:
		return new(big.Int).Neg(one)
	}
	return one
}

// checkPow compares Pow with the power of the values.
func checkPow(t *testing.T, a, b api.Vec) {
	t.Helper()
	x, y := digits(a), digits(b)
	var want *big.Int
	if known(x) && known(y) {
		want = power(value(x, a.Signed), value(y, b.Signed), len(x))
	}
	is(t, "Pow", vec.Pow(a, b), result(want, len(x), a.Signed), a, b)
}

// P4.4, P4.9: Pow is the power of the values, each with its own sign, of the width and sign of a.
func TestPow(t *testing.T) {
	pairs(func(a, b api.Vec) { checkPow(t, a, b) })
}

// P4.4: powers of 0, 1, -1 and others, with exponents of both signs, for bases of all widths.
func TestPowBases(t *testing.T) {
	for _, width := range []int{1, 2, 3, 4, 32, 63, 64, 65, 127, 128} {
		for _, base := range []int64{0, 1, -1, 2, -2, 3, 7, math.MaxInt64, math.MinInt64} {
			for _, exponent := range []int64{0, 1, 2, 3, 5, 64, 127, 128, -1, -2, -3, -4, -64, math.MinInt64, math.MinInt64 + 1, math.MaxInt64} {
				for _, signs := range []int{0, 1, 2, 3} {
					for _, other := range []int{1, 2, 8, 64, 65, 128} {
						checkPow(t, ofInt(base, width, signs&1 == 1), ofInt(exponent, other, signs&2 == 2))
					}
				}
			}
		}
	}
}

// P4.4: what the rule for negative exponents says, in numbers.
func TestPowExamples(t *testing.T) {
	for _, x := range [][3]string{
		{"s0010", "s1111", "s0000"}, {"0010", "s1111", "0000"}, {"0000", "s1111", "xxxx"}, {"s0000", "s1000", "sxxxx"},
		{"0001", "s1110", "0001"}, {"s0001", "s1111", "s0001"}, {"s1111", "s1111", "s1111"}, {"s1111", "s1110", "s0001"},
		{"1111", "s1111", "0000"}, {"1111", "1111", "1111"}, {"0000", "s0000", "0001"}, {"s0000", "0", "s0001"},
		{"s1", "s1", "s1"}, {"1", "s1", "1"}, {"0", "s1", "x"}, {"s0", "1", "s0"}, {"0011", "s1x11", "xxxx"}, {"s00z1", "0", "sxxxx"},
		{"0011", "101", "0011"}, {"s1110", "s011", "s1000"},
	} {
		is(t, "Pow", vec.Pow(of(x[0]), of(x[1])), x[2], of(x[0]), of(x[1]))
	}
}

// P4.5: Eq is the conjunction of the equality of all pairs of bits, Ne its negation.
func TestEq(t *testing.T) {
	pairs(func(a, b api.Vec) {
		x, y, _ := balanced(a, b)
		want := byte('1')
		for _, c := range []byte(pairwise(x, y, xnor)) {
			want = and(want, c)
		}
		is(t, "Eq", vec.Eq(a, b), string(want), a, b)
		is(t, "Ne", vec.Ne(a, b), string(not(want)), a, b)
	})
}

// P4.5, P4.9: the comparisons compare the values of the balanced operands.
func TestCompare(t *testing.T) {
	for _, x := range []struct {
		name  string
		f     func(a, b api.Vec) api.Vec
		holds func(order int) bool
	}{
		{"Lt", vec.Lt, func(order int) bool { return order < 0 }},
		{"Le", vec.Le, func(order int) bool { return order <= 0 }},
		{"Gt", vec.Gt, func(order int) bool { return order > 0 }},
		{"Ge", vec.Ge, func(order int) bool { return order >= 0 }},
	} {
		pairs(func(a, b api.Vec) {
			l, r, signed := balanced(a, b)
			want := "x"
			if known(l) && known(r) {
				want = yes(x.holds(value(l, signed).Cmp(value(r, signed))))
			}
			is(t, x.name, x.f(a, b), want, a, b)
		})
	}
}

// agree reports whether all pairs of digits are the same, apart from pairs with a wild one.
func agree(x, y, wild string) bool {
	for i := range len(x) {
		if x[i] != y[i] && !strings.ContainsAny(x[i:i+1]+y[i:i+1], wild) {
			return false
		}
	}
	return true
}

// P4.5: CaseEq compares the four values, MatchZ all but pairs with a z, MatchX all but pairs with an x or z.
func TestCaseComparison(t *testing.T) {
	pairs(func(a, b api.Vec) {
		x, y, _ := balanced(a, b)
		is(t, "CaseEq", vec.CaseEq(a, b), yes(x == y), a, b)
		is(t, "CaseNe", vec.CaseNe(a, b), yes(x != y), a, b)
		holds(t, "MatchZ", vec.MatchZ(a, b) == agree(x, y, "z"), a, b)
		holds(t, "MatchX", vec.MatchX(a, b) == agree(x, y, "xz"), a, b)
	})
}

// P4.11: CaseEq is 1 if the balanced operands are the same; MatchX follows from MatchZ, MatchZ from CaseEq.
func TestMatchLaws(t *testing.T) {
	pairs(func(a, b api.Vec) {
		x, y, signed := balanced(a, b)
		same := vec.Same(of(written(x, signed)), of(written(y, signed)))
		caseEq := text(vec.CaseEq(a, b)) == "1"
		matchZ, matchX := vec.MatchZ(a, b), vec.MatchX(a, b)
		holds(t, "CaseEq is 1 if the balanced operands are the same", caseEq == same, a, b)
		holds(t, "MatchZ follows from CaseEq", matchZ || !caseEq, a, b)
		holds(t, "MatchX follows from MatchZ", matchX || !matchZ, a, b)
		if known(x) && known(y) {
			eq := text(vec.Eq(a, b)) == "1"
			holds(t, "all agree with Eq", caseEq == eq && matchZ == eq && matchX == eq, a, b)
		}
	})
}

// shifted returns the digits shifted to the left by n, or to the right by -n, with free digits.
func shifted(s string, n int, free string) string {
	n = max(-len(s), min(n, len(s)))
	if n >= 0 {
		return s[n:] + strings.Repeat(free, n)
	}
	return strings.Repeat(free, -n) + s[:len(s)+n]
}

// checkShifts compares the shifts with those of the digits.
func checkShifts(t *testing.T, a, b api.Vec) {
	t.Helper()
	s, x := digits(a), strings.Repeat("x", len(a.Bits))
	left, right, arithmetic := x, x, x
	if y := digits(b); known(y) {
		n, top := len(s), "0"
		if distance := value(y, false); distance.Cmp(big.NewInt(int64(len(s)))) < 0 {
			n = int(distance.Int64())
		}
		if a.Signed {
			top = s[:1]
		}
		left, right, arithmetic = shifted(s, n, "0"), shifted(s, -n, "0"), shifted(s, -n, top)
	}
	is(t, "Shl", vec.Shl(a, b), written(left, a.Signed), a, b)
	is(t, "AShl", vec.AShl(a, b), written(left, a.Signed), a, b)
	is(t, "Shr", vec.Shr(a, b), written(right, a.Signed), a, b)
	is(t, "AShr", vec.AShr(a, b), written(arithmetic, a.Signed), a, b)
}

// P4.6: shifts by the unsigned value of the second operand; free bits are 0, or copies of the sign for AShr.
func TestShifts(t *testing.T) {
	pairs(func(a, b api.Vec) { checkShifts(t, a, b) })
}

// P4.6: shifts by the width, by more, and by amounts that fit into no machine word.
func TestShiftAmounts(t *testing.T) {
	for _, a := range append(every(3), wide()...) {
		for n := range 131 {
			checkShifts(t, a, ofInt(int64(n), 8, n%2 == 0))
		}
		for i := range 128 {
			checkShifts(t, a, of(binary(power2(i), 128)))
			checkShifts(t, a, of("s"+binary(power2(i), i+1)))
		}
		for _, width := range []int{1, 7, 8, 31, 32, 63, 64, 65, 128} {
			checkShifts(t, a, ofInt(-1, width, true)) // unsigned, the greatest amount
			checkShifts(t, a, of("x"+strings.Repeat("0", width-1)))
		}
	}
}

// P4.7: Cond chooses a balanced operand by the truth of the first one, or what both have in common.
func TestCond(t *testing.T) {
	selectors := []api.Vec{of("1"), of("0"), of("x"), of("z"), of("s1"), of("sx"), of("0x"), of("x1"), of("s1z"), of("s00"), of("z0z"), of(strings.Repeat("0", 128)), of("1" + strings.Repeat("x", 127))}
	pairs(func(a, b api.Vec) {
		x, y, signed := balanced(a, b)
		for _, sel := range selectors {
			want := pairwise(x, y, common)
			switch truth(digits(sel)) {
			case '1':
				want = x
			case '0':
				want = y
			}
			is(t, "Cond", vec.Cond(sel, a, b), written(want, signed), sel, a, b)
		}
	})
}

// The examples of the chapter.
func TestExamples(t *testing.T) {
	slice := func(a, _ api.Vec) api.Vec { b, _ := vec.Slice(a, 4, 2); return b }
	concat := func(a, b api.Vec) api.Vec { c, _ := vec.Concat(a, b); return c }
	for _, x := range []struct {
		name       string
		f          func(a, b api.Vec) api.Vec
		a, b, want string
	}{
		{"&", vec.And, "1x00", "0110", "0x00"},
		{"+", vec.Add, "1100", "0101", "0001"},
		{"+", vec.Add, "1x00", "0001", "xxxx"},
		{"+", vec.Add, "s1101", "s00000101", "s00000010"},
		{"+", vec.Add, "s1101", "00000101", "00010010"},
		{"==", vec.Eq, "10x0", "0000", "0"},
		{"==", vec.Eq, "00x0", "0000", "x"},
		{"===", vec.CaseEq, "1x00", "1x00", "1"},
		{"/", vec.Div, "s1101", "s0010", "s1111"},
		{">>>", vec.AShr, "s1000", "s0001", "s1100"},
		{"{,}", concat, "10", "0z1", "100z1"},
		{"bits 4 to 2", slice, "1011", "0", "x10"},
		{"x ? :", func(a, b api.Vec) api.Vec { return vec.Cond(of("x"), a, b) }, "1010", "1001", "10xx"},
		{"**", vec.Pow, "s0010", "s1111", "s0000"},
	} {
		is(t, x.name, x.f(of(x.a), of(x.b)), x.want, of(x.a), of(x.b))
	}
}
