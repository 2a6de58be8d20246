package vec_test

import (
	"math/big"
	"strings"
	"testing"

	"netlab/api"
)

// of returns the vector with the given characters, the most significant bit first; s in front makes it signed.
func of(s string) api.Vec {
	signed := strings.HasPrefix(s, "s")
	s = strings.TrimPrefix(s, "s")
	bits := make([]api.Bit, len(s))
	for i := range s {
		bits[len(s)-1-i] = api.Bit(strings.IndexByte("01xz", s[i]))
	}
	return api.Vec{Bits: bits, Signed: signed}
}

// digits returns the characters of the bits of a, the most significant one first.
func digits(a api.Vec) string {
	s := make([]byte, len(a.Bits))
	for i, b := range a.Bits {
		s[len(s)-1-i] = '?'
		if b <= api.BZ {
			s[len(s)-1-i] = "01xz"[b]
		}
	}
	return string(s)
}

// text returns the characters from which of makes a.
func text(a api.Vec) string { return written(digits(a), a.Signed) }

// written returns the text of a vector with the given digits.
func written(digits string, signed bool) string {
	if signed {
		return "s" + digits
	}
	return digits
}

// is fails the test if got is not the vector want.
func is(t *testing.T, name string, got api.Vec, want string, args ...api.Vec) {
	t.Helper()
	if text(got) == want {
		return
	}
	t.Fatalf("%s of %s: got %s, want %s", name, texts(args), text(got), want)
}

// holds fails the test if the condition is false.
func holds(t *testing.T, name string, condition bool, args ...api.Vec) {
	t.Helper()
	if !condition {
		t.Fatalf("%s: not so for %s", name, texts(args))
	}
}

// texts lists vectors.
func texts(l []api.Vec) string {
	var s []string
	for _, a := range l {
		s = append(s, "'"+text(a)+"'")
	}
	return strings.Join(s, ", ")
}

// extended returns digits that are extended or shortened to a width.
func extended(s string, signed bool, width int) string {
	fill := "0"
	if signed {
		fill = s[:1]
	}
	for len(s) < width {
		s = fill + s
	}
	return s[len(s)-width:]
}

// balanced returns the digits and the sign of two balanced vectors.
func balanced(a, b api.Vec) (x, y string, signed bool) {
	signed = a.Signed && b.Signed
	width := max(len(a.Bits), len(b.Bits))
	return extended(digits(a), signed, width), extended(digits(b), signed, width), signed
}

// known reports whether all digits are known.
func known(s string) bool { return !strings.ContainsAny(s, "xz") }

// power2 returns 2^n.
func power2(n int) *big.Int { return new(big.Int).Lsh(big.NewInt(1), uint(n)) }

// value returns the value of known digits.
func value(s string, signed bool) *big.Int {
	n, _ := new(big.Int).SetString(s, 2)
	if signed && s[0] == '1' {
		n.Sub(n, power2(len(s)))
	}
	return n
}

// binary returns the digits of n modulo 2^width.
func binary(n *big.Int, width int) string {
	s := new(big.Int).Mod(n, power2(width)).Text(2) // Mod is never negative
	return extended(s, false, max(width, 1))
}

// not returns the negation of a digit.
func not(x byte) byte {
	switch x {
	case '0':
		return '1'
	case '1':
		return '0'
	}
	return 'x'
}

// and returns the conjunction of two digits.
func and(x, y byte) byte {
	switch {
	case x == '0' || y == '0':
		return '0'
	case x == '1' && y == '1':
		return '1'
	}
	return 'x'
}

// or returns the disjunction of two digits.
func or(x, y byte) byte { return not(and(not(x), not(y))) }

// xor tells whether two digits differ.
func xor(x, y byte) byte {
	switch {
	case !known(string([]byte{x, y})):
		return 'x'
	case x == y:
		return '0'
	}
	return '1'
}

// xnor tells whether two digits are equal.
func xnor(x, y byte) byte { return not(xor(x, y)) }

// common returns what two digits have in common.
func common(x, y byte) byte {
	if x == y && x != 'z' {
		return x
	}
	return 'x'
}

// truth returns the digit of the truth of a vector.
func truth(s string) byte {
	switch {
	case strings.Contains(s, "1"):
		return '1'
	case known(s):
		return '0'
	}
	return 'x'
}

// pairwise applies f to each pair of digits.
func pairwise(x, y string, f func(x, y byte) byte) string {
	s := make([]byte, len(x))
	for i := range s {
		s[i] = f(x[i], y[i])
	}
	return string(s)
}

// yes returns the digit of a condition.
func yes(v bool) string {
	if v {
		return "1"
	}
	return "0"
}

// every returns all vectors of 1 to most bits.
func every(most int) []api.Vec {
	var l []api.Vec
	level := []string{""}
	for range most {
		var next []string
		for _, s := range level {
			for _, c := range []string{"0", "1", "x", "z"} {
				next = append(next, s+c)
			}
		}
		for _, s := range next {
			l = append(l, of(s), of("s"+s))
		}
		level = next
	}
	return l
}

// numbers yields the same sequence of numbers in every run.
func numbers() func() uint64 {
	state := uint64(1)
	return func() uint64 {
		state = state*6364136223846793005 + 1442695040888963407
		return state ^ state>>29
	}
}

// random returns a vector whose bits are known, or, if mixed, also x and z.
func random(next func() uint64, width int, signed, mixed bool) api.Vec {
	a := api.Vec{Bits: make([]api.Bit, width), Signed: signed}
	for i := range a.Bits {
		a.Bits[i] = api.Bit(next() >> 40 & 1)
		if mixed {
			a.Bits[i] = api.Bit(next() >> 40 & 3)
		}
	}
	return a
}

// ofInt returns the vector of an integer.
func ofInt(n int64, width int, signed bool) api.Vec {
	return of(written(binary(big.NewInt(n), width), signed))
}

// wideWidths holds widths around those of machine words and around the limit.
var wideWidths = []int{5, 32, 63, 64, 65, 127, 128}

// wide returns vectors of many widths: special values, some others, and some with x and z.
func wide() []api.Vec {
	next := numbers()
	var l []api.Vec
	for _, width := range wideWidths {
		for _, signed := range []bool{false, true} {
			for _, n := range []int64{0, 1, 3, -1, -2} {
				l = append(l, ofInt(n, width, signed))
			}
			least := power2(width - 1)
			most := new(big.Int).Sub(least, big.NewInt(1))
			l = append(l, of(written(binary(least, width), signed)), of(written(binary(most, width), signed)))
			l = append(l, random(next, width, signed, false), random(next, width, signed, false))
			l = append(l, random(next, width, signed, true))
			one := random(next, width, signed, false)
			one.Bits[next()%uint64(width)] = api.BX + api.Bit(next()>>40&1)
			l = append(l, one)
		}
	}
	return l
}

// all returns the small and the wide vectors.
func all() []api.Vec { return append(every(4), wide()...) }

// pairs calls f with all pairs of small vectors and all pairs of wide ones.
func pairs(f func(a, b api.Vec)) {
	for _, l := range [][]api.Vec{every(3), wide()} {
		for _, a := range l {
			for _, b := range l {
				f(a, b)
			}
		}
	}
}

// invalid returns vectors that are not valid.
func invalid() []api.Vec {
	long := func(n int, b api.Bit, signed bool) api.Vec {
		a := api.Vec{Bits: make([]api.Bit, n), Signed: signed}
		for i := range a.Bits {
			a.Bits[i] = b
		}
		return a
	}
	return []api.Vec{
		{}, {Signed: true}, {Bits: []api.Bit{}}, {Bits: []api.Bit{}, Signed: true},
		long(129, api.B0, false), long(129, api.B1, true), long(200, api.BZ, true), long(5000, api.B1, false),
		{Bits: []api.Bit{4}}, {Bits: []api.Bit{255}, Signed: true},
		{Bits: []api.Bit{api.B1, 4}}, {Bits: []api.Bit{4, api.B1}, Signed: true}, {Bits: []api.Bit{api.B0, 7, api.B0}},
		long(128, 4, false), long(129, 255, true),
	}
}
