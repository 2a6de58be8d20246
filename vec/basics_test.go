package vec_test

import (
	"math"
	"math/big"
	"slices"
	"strings"
	"testing"

	"netlab/api"
	"netlab/vec"
)

// badWidths holds widths that no vector may have.
var badWidths = []int{math.MinInt, math.MinInt + 1, -1 << 32, -128, -1, 0, 129, 130, 256, 1 << 31, 1<<32 + 1, math.MaxInt}

// fails fails the test unless the error is want and the vector is the zero value.
func fails(t *testing.T, name string, got api.Vec, e, want api.Errno, args ...any) {
	t.Helper()
	if e != want || len(got.Bits) != 0 || got.Signed {
		t.Fatalf("%s %v: got %s and error %d, want no vector and error %d", name, args, text(got), e, want)
	}
}

// makes fails the test unless the vector is want, without an error.
func makes(t *testing.T, name string, got api.Vec, e api.Errno, want string, args ...any) {
	t.Helper()
	if e != api.OK || text(got) != want {
		t.Fatalf("%s %v: got %s and error %d, want %s", name, args, text(got), e, want)
	}
}

// P4.1: Check accepts 1 to MaxWidth bits, each of them one of the four values.
func TestCheckValid(t *testing.T) {
	for _, a := range all() {
		holds(t, "Check returns OK", vec.Check(a) == api.OK, a)
	}
	holds(t, "Check of MaxWidth bits", vec.Check(of(strings.Repeat("z", 128))) == api.OK)
}

// P4.1: Check names the error; too many bits come before a bit above BZ.
func TestCheckInvalid(t *testing.T) {
	for _, x := range []struct {
		width int
		bit   api.Bit
		want  api.Errno
	}{
		{0, 0, api.ErrShort}, {1, 4, api.ErrArg}, {2, 255, api.ErrArg}, {128, 4, api.ErrArg}, {128, 128, api.ErrArg},
		{129, api.B0, api.ErrLong}, {129, 4, api.ErrLong}, {256, api.B0, api.ErrLong}, {257, 4, api.ErrLong}, {70000, api.BX, api.ErrLong},
	} {
		for _, signed := range []bool{false, true} {
			a := api.Vec{Bits: make([]api.Bit, x.width), Signed: signed}
			for i := range a.Bits {
				a.Bits[i] = x.bit
			}
			if e := vec.Check(a); e != x.want {
				t.Fatalf("Check of %d bits %d: got %d, want %d", x.width, x.bit, e, x.want)
			}
		}
	}
	for i := range 128 {
		a := of(strings.Repeat("1", 128))
		a.Bits[i] = 4
		holds(t, "Check finds the bit above BZ", vec.Check(a) == api.ErrArg, a)
	}
}

// P4.1: Same compares the signs and the bits, also of invalid vectors.
func TestSame(t *testing.T) {
	pairs(func(a, b api.Vec) {
		if got, want := vec.Same(a, b), text(a) == text(b); got != want {
			t.Fatalf("Same of %s and %s: got %t, want %t", text(a), text(b), got, want)
		}
	})
	for i, a := range invalid() {
		holds(t, "an invalid vector is the same as itself", vec.Same(a, api.Vec{Bits: slices.Clone(a.Bits), Signed: a.Signed}))
		holds(t, "an invalid vector is not the same with the other sign", !vec.Same(a, api.Vec{Bits: a.Bits, Signed: !a.Signed}))
		holds(t, "an invalid vector is not the same as a valid one", !vec.Same(a, of("x")) && !vec.Same(of("x"), a))
		for j, b := range invalid() {
			want := i == j || len(a.Bits)+len(b.Bits) == 0 && a.Signed == b.Signed // no bits and nil
			if got := vec.Same(a, b); got != want {
				t.Fatalf("Same of invalid vectors %d and %d: got %t, want %t", i, j, got, want)
			}
		}
	}
	four, five := api.Vec{Bits: []api.Bit{4}}, api.Vec{Bits: []api.Bit{5}}
	holds(t, "different bits above BZ are not the same", !vec.Same(four, five))
}

// P4.1: a vector is known if all its bits are.
func TestKnown(t *testing.T) {
	for _, a := range all() {
		if got, want := vec.Known(a), known(digits(a)); got != want {
			t.Fatalf("Known of %s: got %t, want %t", text(a), got, want)
		}
	}
}

// P4.1: Leq compares bit by bit, with equal widths and signs only.
func TestLeq(t *testing.T) {
	below := func(x, y byte) bool { return x == y || !known(string([]byte{x})) && known(string([]byte{y})) }
	pairs(func(a, b api.Vec) {
		want := a.Signed == b.Signed && len(a.Bits) == len(b.Bits)
		for i := 0; want && i < len(a.Bits); i++ {
			want = below(digits(a)[i], digits(b)[i])
		}
		if got := vec.Leq(a, b); got != want {
			t.Fatalf("Leq of %s and %s: got %t, want %t", text(a), text(b), got, want)
		}
	})
}

// ints holds numbers of many sizes, with the limits of int64.
func ints() []int64 {
	l := []int64{0, 1, -1, 2, -2, 10, -10, math.MaxInt64, math.MinInt64, math.MaxInt64 - 1, math.MinInt64 + 1}
	for i := range 63 {
		l = append(l, 1<<i, 1<<i-1, -1<<i, -1<<i-1)
	}
	return l
}

// P4.1: FromInt returns the vector of n modulo 2^width.
func TestFromInt(t *testing.T) {
	for _, n := range ints() {
		for width := 1; width <= 128; width++ {
			for _, signed := range []bool{false, true} {
				a, e := vec.FromInt(n, width, signed)
				makes(t, "FromInt", a, e, written(binary(big.NewInt(n), width), signed), n, width)
			}
		}
		for _, width := range badWidths {
			a, e := vec.FromInt(n, width, true)
			fails(t, "FromInt", a, e, api.ErrWidth, n, width)
		}
	}
}

// P4.1: Unknown returns a vector of x.
func TestUnknown(t *testing.T) {
	for _, signed := range []bool{false, true} {
		for width := 1; width <= 128; width++ {
			a, e := vec.Unknown(width, signed)
			makes(t, "Unknown", a, e, written(strings.Repeat("x", width), signed), width)
		}
		for _, width := range badWidths {
			a, e := vec.Unknown(width, signed)
			fails(t, "Unknown", a, e, api.ErrWidth, width)
		}
	}
}

// checkInt compares Int with the value by definition.
func checkInt(t *testing.T, a api.Vec) {
	t.Helper()
	want, ok := int64(0), false
	if s := digits(a); known(s) && value(s, a.Signed).IsInt64() {
		want, ok = value(s, a.Signed).Int64(), true
	}
	if got, is := vec.Int(a); got != want || is != ok {
		t.Fatalf("Int of %s: got %d, %t, want %d, %t", text(a), got, is, want, ok)
	}
}

// P4.1: Int returns the value of a known vector if it fits.
func TestInt(t *testing.T) {
	for _, a := range all() {
		checkInt(t, a)
	}
	for _, n := range ints() {
		for _, width := range wideWidths {
			checkInt(t, ofInt(n, width, false))
			checkInt(t, ofInt(n, width, true))
		}
	}
}

// P4.1: Int at the limits of int64 and one beyond them.
func TestIntLimits(t *testing.T) {
	most, least := big.NewInt(math.MaxInt64), big.NewInt(math.MinInt64)
	for width := 64; width <= 128; width++ {
		for _, signed := range []bool{false, true} {
			for d := int64(-2); d <= 2; d++ {
				checkInt(t, of(written(binary(new(big.Int).Add(most, big.NewInt(d)), width), signed)))
				checkInt(t, of(written(binary(new(big.Int).Add(least, big.NewInt(d)), width), signed)))
			}
			for i := range width {
				checkInt(t, of(written(binary(power2(i), width), signed)))
			}
		}
	}
	if n, ok := vec.Int(of("s1" + strings.Repeat("0", 63))); n != math.MinInt64 || !ok {
		t.Errorf("Int of the least vector of 64 bits: got %d, %t", n, ok)
	}
	if n, ok := vec.Int(of("1" + strings.Repeat("0", 63))); n != 0 || ok {
		t.Errorf("Int of 2^63: got %d, %t", n, ok)
	}
}

// P4.1: Truth is 1 if a bit is 1, 0 if all are 0, and x otherwise.
func TestTruth(t *testing.T) {
	for _, a := range all() {
		if got, want := vec.Truth(a), truth(digits(a)); "01xz"[got] != want {
			t.Fatalf("Truth of %s: got %d, want %c", text(a), got, want)
		}
	}
}

// P4.1: WithSign sets the sign only.
func TestWithSign(t *testing.T) {
	for _, a := range all() {
		is(t, "WithSign", vec.WithSign(a, true), "s"+digits(a), a)
		is(t, "WithSign", vec.WithSign(a, false), digits(a), a)
	}
}
