package bv_test

import (
	"math"
	"math/big"
	"slices"
	"testing"

	"netlab/api"
	"netlab/bv"
)

// vector shortens the name in these tests.
type vector = []bool

// unsigned returns the unsigned value of a by its definition.
func unsigned(a vector) *big.Int {
	n := new(big.Int)
	for i, b := range a {
		if b {
			n.Add(n, power2(i))
		}
	}
	return n
}

// signed returns the signed value of a by its definition.
func signed(a vector) *big.Int {
	n := unsigned(a)
	if len(a) > 0 && a[len(a)-1] {
		n.Sub(n, power2(len(a)))
	}
	return n
}

// power2 returns 2^n.
func power2(n int) *big.Int { return new(big.Int).Lsh(big.NewInt(1), uint(n)) }

// of returns the vector of n with the given width.
func of(n *big.Int, width int) vector {
	rest := new(big.Int).Mod(n, power2(width)) // Mod is never negative
	a := make(vector, width)
	for i := range a {
		a[i] = rest.Bit(i) == 1
	}
	return a
}

// small returns the vector of a small integer.
func small(n, width int) vector { return of(big.NewInt(int64(n)), width) }

// every returns all vectors of up to most bits.
func every(most int) []vector {
	var l []vector
	for width := 0; width <= most; width++ {
		for n := range 1 << width {
			l = append(l, small(n, width))
		}
	}
	return l
}

// numbers yields the same sequence of numbers in every run.
func numbers() func() uint64 {
	state := uint64(1)
	return func() uint64 {
		state = state*6364136223846793005 + 1442695040888963407
		return state ^ state>>29
	}
}

// wide returns vectors of many widths: 0, 1, 2, -1, -2, the greatest, the least and some others.
func wide() []vector {
	next := numbers()
	var l []vector
	for _, width := range []int{0, 1, 2, 7, 31, 32, 33, 63, 64, 65, 100, 127, 128, 129, 200} {
		for _, n := range []int{0, 1, 2, 10, -1, -2, -10} {
			l = append(l, small(n, width))
		}
		if width > 0 {
			least := power2(width - 1)
			l = append(l, of(least, width), of(new(big.Int).Sub(least, big.NewInt(1)), width))
		}
		for range 3 {
			a := make(vector, width)
			for i := range a {
				a[i] = next()&(1<<20) != 0
			}
			l = append(l, a)
		}
	}
	return l
}

// pairs calls f with all pairs of small vectors and all pairs of wide ones.
func pairs(f func(a, b vector)) {
	for _, l := range [][]vector{every(5), wide()} {
		for _, a := range l {
			for _, b := range l {
				f(a, b)
			}
		}
	}
}

// text writes a vector with its most significant bit first.
func text(a vector) string {
	s := []byte("'")
	for i := len(a) - 1; i >= 0; i-- {
		s = append(s, '0')
		if a[i] {
			s[len(s)-1] = '1'
		}
	}
	return string(s)
}

// is fails the test if got is not want.
func is(t *testing.T, name string, got, want vector, args ...vector) {
	t.Helper()
	if slices.Equal(got, want) {
		return
	}
	for _, a := range args {
		name += " " + text(a)
	}
	t.Fatalf("%s: got %s, want %s", name, text(got), text(want))
}

// shifts holds the numbers of bits by which the tests shift.
var shifts = []int{math.MinInt, math.MinInt + 1, -1000, -2, -1, 0, 1, 2, 3, 5, 7, 31, 32, 63, 64, 65, 127, 128, 129, 199, 200, 201, 1000, 1 << 31, 1 << 32, 1<<32 + 1, math.MaxInt - 1, math.MaxInt}

// ints holds numbers of many sizes, with the limits of int64.
func ints() []int64 {
	l := []int64{0, 1, -1, 2, -2, 10, -10, math.MaxInt64, math.MinInt64, math.MaxInt64 - 1, math.MinInt64 + 1}
	for i := range 63 {
		l = append(l, 1<<i, 1<<i-1, -1<<i, -1<<i-1)
	}
	return l
}

// P3.1: FromInt returns the vector of n, for all widths of 0..MaxWidth.
func TestFromInt(t *testing.T) {
	for width := 0; width <= api.MaxWidth; width++ {
		for _, n := range ints() {
			got, e := bv.FromInt(n, width)
			if want := of(big.NewInt(n), width); e != api.OK || !slices.Equal(got, want) {
				t.Fatalf("FromInt(%d, %d): got %s and error %d, want %s", n, width, text(got), e, text(want))
			}
		}
	}
}

// P3.1: other widths are errors.
func TestFromIntWidth(t *testing.T) {
	for _, width := range []int{-1, -2, -128, math.MinInt, api.MaxWidth + 1, 256, 1 << 32, math.MaxInt} {
		for _, n := range []int64{0, 1, -1} {
			if got, e := bv.FromInt(n, width); e != api.ErrArg || len(got) != 0 {
				t.Errorf("FromInt(%d, %d): got %d bits and error %d, want ErrArg", n, width, len(got), e)
			}
		}
	}
}

// limits returns vectors whose values lie at the limits of uint64 and int64, with several widths.
func limits() []vector {
	var l []vector
	for _, width := range []int{62, 63, 64, 65, 66, 127, 128, 129, 300} {
		for _, at := range []int{62, 63, 64, 65, 127, 128} {
			for d := -2; d <= 2; d++ {
				n := new(big.Int).Add(power2(at), big.NewInt(int64(d)))
				l = append(l, of(n, width), of(n.Neg(n), width))
			}
		}
	}
	return l
}

// P3.1: Uint and Int return the values if they fit, otherwise 0 and false.
func TestUintInt(t *testing.T) {
	for _, a := range slices.Concat(every(7), wide(), limits()) {
		n, ok := bv.Uint(a)
		if want := unsigned(a); ok != want.IsUint64() || ok && n != want.Uint64() || !ok && n != 0 {
			t.Errorf("Uint of %s: got %d, %t, want %d", text(a), n, ok, want)
		}
		m, ok := bv.Int(a)
		if want := signed(a); ok != want.IsInt64() || ok && m != want.Int64() || !ok && m != 0 {
			t.Errorf("Int of %s: got %d, %t, want %d", text(a), m, ok, want)
		}
	}
}

// P3.1: the values of the empty vector and of those of one bit.
func TestShortest(t *testing.T) {
	for _, x := range []struct {
		a        vector
		unsigned uint64
		signed   int64
	}{{nil, 0, 0}, {vector{}, 0, 0}, {vector{false}, 0, 0}, {vector{true}, 1, -1}} {
		n, is := bv.Uint(x.a)
		m, isInt := bv.Int(x.a)
		if n != x.unsigned || m != x.signed || !is || !isInt {
			t.Errorf("%s: got %d, %t and %d, %t, want %d and %d", text(x.a), n, is, m, isInt, x.unsigned, x.signed)
		}
	}
}

// P3.2: sum, difference and product of the unsigned values, with the width of a.
func TestArithmetic(t *testing.T) {
	pairs(func(a, b vector) {
		x, y := unsigned(a), unsigned(b)
		is(t, "Add", bv.Add(a, b), of(new(big.Int).Add(x, y), len(a)), a, b)
		is(t, "Sub", bv.Sub(a, b), of(new(big.Int).Sub(x, y), len(a)), a, b)
		is(t, "Mul", bv.Mul(a, b), of(new(big.Int).Mul(x, y), len(a)), a, b)
	})
}

// P3.2: Neg returns the vector of the negated value.
func TestNeg(t *testing.T) {
	for _, a := range slices.Concat(every(8), wide()) {
		is(t, "Neg", bv.Neg(a), of(new(big.Int).Neg(unsigned(a)), len(a)), a)
	}
}

// P3.2: Pow returns the power of the unsigned values, with the width of a.
func TestPow(t *testing.T) {
	power := func(a, b vector) {
		// modulo 2^(width+1), so that the modulus is greater than 1 for the width 0 too
		n := new(big.Int).Exp(unsigned(a), unsigned(b), power2(len(a)+1))
		is(t, "Pow", bv.Pow(a, b), of(n, len(a)), a, b)
	}
	for _, a := range every(5) {
		for _, b := range every(6) {
			power(a, b)
		}
	}
	for i, a := range wide() {
		for j, b := range wide() {
			if (i+j)%7 == 0 {
				power(a, b)
			}
		}
	}
}

// P3.2: exponent 0 gives 1, also with base 0 and without bits of the exponent.
func TestPowZero(t *testing.T) {
	for _, width := range []int{0, 1, 2, 4, 64, 128} {
		for _, b := range []vector{nil, {false}, {false, false, false}, make(vector, 200)} {
			is(t, "0 to the power of 0", bv.Pow(make(vector, width), b), small(1, width))
			is(t, "-1 to the power of 0", bv.Pow(small(-1, width), b), small(1, width))
		}
		for _, b := range []vector{{true}, {false, true}, {true, true, false}} {
			is(t, "0 to a power", bv.Pow(make(vector, width), b), small(0, width), b)
		}
	}
}

// P3.3: unsigned quotient and remainder, rounded down; dividing by 0 is an error.
func TestDivMod(t *testing.T) {
	pairs(func(a, b vector) {
		q, r, e := bv.DivMod(a, b)
		x, y := unsigned(a), unsigned(b)
		if y.Sign() == 0 {
			if e != api.ErrZero || len(q) != 0 || len(r) != 0 {
				t.Fatalf("%s / %s: got %s, %s and error %d, want ErrZero", text(a), text(b), text(q), text(r), e)
			}
			return
		}
		if e != api.OK {
			t.Fatalf("%s / %s: error %d", text(a), text(b), e)
		}
		is(t, "quotient of", q, of(new(big.Int).Div(x, y), len(a)), a, b)
		is(t, "remainder of", r, of(new(big.Int).Mod(x, y), len(a)), a, b)
	})
}

// P3.3: signed quotient, rounded towards 0, and remainder; dividing by 0 is an error.
func TestSDivMod(t *testing.T) {
	pairs(func(a, b vector) {
		q, r, e := bv.SDivMod(a, b)
		x, y := signed(a), signed(b)
		if y.Sign() == 0 {
			if e != api.ErrZero || len(q) != 0 || len(r) != 0 {
				t.Fatalf("signed %s / %s: got %s, %s and error %d, want ErrZero", text(a), text(b), text(q), text(r), e)
			}
			return
		}
		if e != api.OK {
			t.Fatalf("signed %s / %s: error %d", text(a), text(b), e)
		}
		is(t, "signed quotient of", q, of(new(big.Int).Quo(x, y), len(a)), a, b)
		is(t, "signed remainder of", r, of(new(big.Int).Rem(x, y), len(a)), a, b)
	})
}

// P3.3: the most negative value divided by -1 is itself, with remainder 0.
func TestMostNegative(t *testing.T) {
	for _, width := range []int{1, 2, 4, 8, 32, 63, 64, 65, 128} {
		least := of(power2(width-1), width)
		for _, b := range []vector{small(-1, width), {true}, small(-1, width+1)} {
			q, r, e := bv.SDivMod(least, b)
			if e != api.OK {
				t.Fatalf("%s / -1: error %d", text(least), e)
			}
			is(t, "quotient of", q, least, least, b)
			is(t, "remainder of", r, make(vector, width), least, b)
		}
	}
}

// P3.4: shifts multiply and divide by 2^n; a negative n counts as 0.
func TestShifts(t *testing.T) {
	for _, a := range slices.Concat(every(6), wide()) {
		for _, n := range shifts {
			by := uint(max(0, min(n, len(a)+1))) // more makes no difference
			is(t, "Shl", bv.Shl(a, n), of(new(big.Int).Lsh(unsigned(a), by), len(a)), a)
			is(t, "Shr", bv.Shr(a, n), of(new(big.Int).Rsh(unsigned(a), by), len(a)), a)
			is(t, "Sar", bv.Sar(a, n), of(new(big.Int).Rsh(signed(a), by), len(a)), a)
		}
	}
}

// P3.5: Cmp compares the unsigned values, SCmp the signed ones, also of unequal widths.
func TestCompare(t *testing.T) {
	pairs(func(a, b vector) {
		if got, want := bv.Cmp(a, b), unsigned(a).Cmp(unsigned(b)); got != want {
			t.Fatalf("Cmp %s %s: got %d, want %d", text(a), text(b), got, want)
		}
		if got, want := bv.SCmp(a, b), signed(a).Cmp(signed(b)); got != want {
			t.Fatalf("SCmp %s %s: got %d, want %d", text(a), text(b), got, want)
		}
	})
}

// P3.6: for vectors of equal width, Add and Mul are commutative, Sub is Add of Neg.
func TestCommutative(t *testing.T) {
	pairs(func(a, b vector) {
		if len(a) != len(b) {
			return
		}
		is(t, "a + b and b + a", bv.Add(a, b), bv.Add(b, a), a, b)
		is(t, "a * b and b * a", bv.Mul(a, b), bv.Mul(b, a), a, b)
		is(t, "a - b and a + -b", bv.Sub(a, b), bv.Add(a, bv.Neg(b)), a, b)
	})
}

// triples calls f with triples of vectors of equal width.
func triples(f func(a, b, c vector)) {
	for width := range 4 {
		for n := range 1 << (3 * width) {
			f(small(n, width), small(n>>width, width), small(n>>(2*width), width))
		}
	}
	next := numbers()
	for _, width := range []int{8, 32, 64, 65, 128} {
		for range 20 {
			random := func() vector { return of(new(big.Int).SetUint64(next()), width) }
			f(random(), random(), random())
		}
	}
}

// P3.6: Add and Mul are associative and distribute.
func TestRing(t *testing.T) {
	triples(func(a, b, c vector) {
		is(t, "a + (b + c)", bv.Add(a, bv.Add(b, c)), bv.Add(bv.Add(a, b), c), a, b, c)
		is(t, "a * (b * c)", bv.Mul(a, bv.Mul(b, c)), bv.Mul(bv.Mul(a, b), c), a, b, c)
		is(t, "a * (b + c)", bv.Mul(a, bv.Add(b, c)), bv.Add(bv.Mul(a, b), bv.Mul(a, c)), a, b, c)
	})
}

// P3.7: a is quotient * divisor + remainder; the remainder is less than the divisor.
func TestDivisionUnsigned(t *testing.T) {
	pairs(func(a, b vector) {
		q, r, e := bv.DivMod(a, b)
		if e != api.OK {
			return
		}
		is(t, "q * b + r", bv.Add(bv.Mul(q, b), r), a, a, b)
		if bv.Cmp(r, b) >= 0 {
			t.Fatalf("%s / %s: remainder %s is not less", text(a), text(b), text(r))
		}
	})
}

// P3.7: the same, signed, for vectors of equal width; the remainder is 0 or has the sign of a.
func TestDivisionSigned(t *testing.T) {
	pairs(func(a, b vector) {
		q, r, e := bv.SDivMod(a, b)
		if e != api.OK || len(a) != len(b) {
			return
		}
		is(t, "q * b + r", bv.Add(bv.Mul(q, b), r), a, a, b)
		x, y, rest := signed(a), signed(b), signed(r)
		if rest.CmpAbs(y) >= 0 || rest.Sign() != 0 && rest.Sign() != x.Sign() {
			t.Fatalf("%d / %d: remainder %d", x, y, rest)
		}
	})
}

// word returns a vector of a machine word.
func word(n uint64, width int) vector { return of(new(big.Int).SetUint64(n), width) }

// words returns pairs of machine words.
func words() [][2]uint64 {
	special := []uint64{0, 1, 2, 3, 10, 1 << 31, 1<<32 - 1, 1 << 32, 1<<63 - 1, 1 << 63, 1<<64 - 2, 1<<64 - 1}
	var l [][2]uint64
	for _, a := range special {
		for _, b := range special {
			l = append(l, [2]uint64{a, b})
		}
	}
	next := numbers()
	for i := range 200 {
		l = append(l, [2]uint64{next(), next() >> (i % 64)})
	}
	return l
}

// P3.8: unsigned results of at most 64 bits agree with Go's arithmetic.
func TestMachineWords(t *testing.T) {
	for _, x := range words() {
		for _, width := range []int{1, 2, 8, 31, 32, 63, 64} {
			m := uint64(math.MaxUint64) >> (64 - width)
			x, y := x[0]&m, x[1]&m
			a, b := word(x, width), word(y, width)
			is(t, "Add", bv.Add(a, b), word((x+y)&m, width), a, b)
			is(t, "Sub", bv.Sub(a, b), word((x-y)&m, width), a, b)
			is(t, "Mul", bv.Mul(a, b), word(x*y&m, width), a, b)
			is(t, "Neg", bv.Neg(a), word(-x&m, width), a)
			n := int(y % 70)
			is(t, "Shl", bv.Shl(a, n), word(x<<n&m, width), a, b)
			is(t, "Shr", bv.Shr(a, n), word(x>>n, width), a, b)
			if q, r, e := bv.DivMod(a, b); e == api.OK {
				is(t, "quotient", q, word(x/y, width), a, b)
				is(t, "remainder", r, word(x%y, width), a, b)
			}
		}
	}
}

// P3.8: signed results of 64, 32 and 8 bits agree with Go's arithmetic.
func TestMachineIntegers(t *testing.T) {
	for _, x := range words() {
		for _, width := range []int{8, 32, 64} {
			d := 64 - width
			x, y := int64(x[0])<<d>>d, int64(x[1])<<d>>d
			a, b := of(big.NewInt(x), width), of(big.NewInt(y), width)
			n := int(uint64(y) % 70)
			is(t, "Sar", bv.Sar(a, n), of(big.NewInt(x>>n), width), a, b)
			if q, r, e := bv.SDivMod(a, b); e == api.OK {
				is(t, "quotient", q, of(big.NewInt(x/y), width), a, b)
				is(t, "remainder", r, of(big.NewInt(x%y), width), a, b)
			}
			if got, ok := bv.Int(a); got != x || !ok {
				t.Fatalf("Int of %s: got %d, %t, want %d", text(a), got, ok, x)
			}
		}
	}
}

// P3.9: shifting by m and by n is shifting by their sum; it is Mul and division by 2^n.
func TestShiftLaws(t *testing.T) {
	for _, a := range slices.Concat(every(4), wide()) {
		for m := range 6 {
			for _, n := range []int{0, 1, 2, 3, 31, 64, 100, 127} {
				is(t, "Shl twice", bv.Shl(bv.Shl(a, m), n), bv.Shl(a, m+n), a)
				is(t, "Shr twice", bv.Shr(bv.Shr(a, m), n), bv.Shr(a, m+n), a)
				is(t, "Sar twice", bv.Sar(bv.Sar(a, m), n), bv.Sar(a, m+n), a)
			}
			factor := small(1<<m, 8)
			is(t, "Shl and Mul", bv.Shl(a, m), bv.Mul(a, factor), a)
			q, _, _ := bv.DivMod(a, factor)
			is(t, "Shr and DivMod", bv.Shr(a, m), q, a)
		}
	}
}

// P3.9: shifts by the width or more return zeros, or, for Sar, copies of the last bit.
func TestShiftedOut(t *testing.T) {
	for _, a := range slices.Concat(every(4), wide()) {
		zeros := make(vector, len(a))
		copies := make(vector, len(a))
		for i := range a {
			copies[i] = a[len(a)-1]
		}
		for _, n := range []int{len(a), len(a) + 1, 2*len(a) + 64, 1 << 32, math.MaxInt} {
			is(t, "Shl", bv.Shl(a, n), zeros, a)
			is(t, "Shr", bv.Shr(a, n), zeros, a)
			is(t, "Sar", bv.Sar(a, n), copies, a)
		}
	}
}

// P3.10: the power for the sum of two exponents is the product of the powers.
func TestPowLaw(t *testing.T) {
	for _, a := range slices.Concat(every(4), []vector{small(3, 64), small(10, 128), small(-7, 100)}) {
		for x := range 12 {
			for y := range 12 {
				b, c := small(x, 5), small(y, 5)
				is(t, "a ** (b + c)", bv.Pow(a, bv.Add(b, c)), bv.Mul(bv.Pow(a, b), bv.Pow(a, c)), a, b, c)
			}
		}
	}
}

// binary holds the functions of two vectors, each with all vectors that it returns.
var binary = map[string]func(a, b vector) []vector{
	"Add":     func(a, b vector) []vector { return []vector{bv.Add(a, b)} },
	"Sub":     func(a, b vector) []vector { return []vector{bv.Sub(a, b)} },
	"Mul":     func(a, b vector) []vector { return []vector{bv.Mul(a, b)} },
	"Pow":     func(a, b vector) []vector { return []vector{bv.Pow(a, b)} },
	"DivMod":  func(a, b vector) []vector { q, r, _ := bv.DivMod(a, b); return []vector{q, r} },
	"SDivMod": func(a, b vector) []vector { q, r, _ := bv.SDivMod(a, b); return []vector{q, r} },
	"Neg":     func(a, b vector) []vector { return []vector{bv.Neg(a)} },
	"Shl 0":   func(a, b vector) []vector { return []vector{bv.Shl(a, 0)} },
	"Shl":     func(a, b vector) []vector { return []vector{bv.Shl(a, 2)} },
	"Shr 0":   func(a, b vector) []vector { return []vector{bv.Shr(a, 0)} },
	"Shr":     func(a, b vector) []vector { return []vector{bv.Shr(a, 2)} },
	"Sar 0":   func(a, b vector) []vector { return []vector{bv.Sar(a, -1)} },
	"Sar":     func(a, b vector) []vector { return []vector{bv.Sar(a, 2)} },
	"Cmp":     func(a, b vector) []vector { bv.Cmp(a, b); bv.SCmp(a, b); return nil },
	"Uint":    func(a, b vector) []vector { bv.Uint(a); bv.Int(a); return nil },
}

// framed returns a copy of a with true elements before it and beyond its length, and the whole of it.
func framed(a vector) (part, whole vector) {
	whole = slices.Concat(vector{true, true}, a, vector{true, true, true})
	return whole[2 : 2+len(a)], whole
}

// P3.11: arguments are not modified, nor is what lies beyond their length read or written.
func TestArguments(t *testing.T) {
	for name, f := range binary {
		for _, a := range slices.Concat(every(3), wide()[40:60]) {
			for _, b := range every(3) {
				x, wholeX := framed(a)
				y, wholeY := framed(b)
				beforeX, beforeY := slices.Clone(wholeX), slices.Clone(wholeY)
				results := f(x, y)
				is(t, name+" changed its first argument", wholeX, beforeX, a, b)
				is(t, name+" changed its second argument", wholeY, beforeY, a, b)
				for i, r := range f(slices.Clone(a), slices.Clone(b)) {
					is(t, name+" depends on what lies beyond", results[i], r, a, b)
				}
			}
		}
	}
}

// P3.11: overwriting a result changes no argument and no other result.
func TestResults(t *testing.T) {
	for name, f := range binary {
		for _, a := range every(4) {
			for _, b := range every(4) {
				x, y := slices.Clone(a), slices.Clone(b)
				results := f(x, y)
				for i, r := range results {
					others := slices.Delete(slices.Clone(results), i, i+1)
					before := slices.Concat(others...)
					for j := range r[:cap(r)] {
						r[:cap(r)][j] = !r[:cap(r)][j]
					}
					is(t, name+" shares memory with its first argument", x, a, a, b)
					is(t, name+" shares memory with its second argument", y, b, a, b)
					is(t, name+" shares memory between its results", slices.Concat(others...), before, a, b)
				}
			}
		}
	}
}

// P3.11: the same vector may be passed twice.
func TestSameVector(t *testing.T) {
	for name, f := range binary {
		for _, a := range every(5) {
			x := slices.Clone(a)
			results := f(x, x)
			is(t, name+" changed its argument", x, a)
			for i, r := range f(slices.Clone(a), slices.Clone(a)) {
				is(t, name+" of the same vector", results[i], r, a)
			}
		}
	}
}

// The examples of the chapter, with 4 bits.
func TestExamples(t *testing.T) {
	v := func(n int) vector { return small(n, 4) }
	is(t, "13 + 5", bv.Add(v(13), v(5)), v(2))
	is(t, "3 - 5", bv.Sub(v(3), v(5)), v(14))
	is(t, "7 * 7", bv.Mul(v(7), v(7)), v(1))
	is(t, "3 ** 5", bv.Pow(v(3), v(5)), v(3))
	is(t, "12 >>> 1", bv.Sar(v(12), 1), v(14))
	for _, x := range []struct {
		divide     func(a, b []bool) (q, r []bool, e api.Errno)
		a, b, q, r int
	}{{bv.DivMod, 13, 5, 2, 3}, {bv.SDivMod, 13, 2, 15, 15}, {bv.SDivMod, -8, -1, 8, 0}} {
		q, r, _ := x.divide(v(x.a), v(x.b))
		is(t, "quotient of", q, v(x.q), v(x.a), v(x.b))
		is(t, "remainder of", r, v(x.r), v(x.a), v(x.b))
	}
}
