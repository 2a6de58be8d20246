package bit_test

import (
	"testing"

	"netlab/api"
	"netlab/bit"
)

// wild holds the four states and values above BZ, which count as x.
var wild = []api.Bit{api.B0, api.B1, api.BX, api.BZ, 4, 5, 127, 128, 254, 255}

// every returns all values of a bit, valid or not.
func every() []api.Bit {
	var l []api.Bit
	for i := range 256 {
		l = append(l, api.Bit(i))
	}
	return l
}

// as returns the state as which the functions see a value.
func as(a api.Bit) api.Bit {
	if a > 3 {
		return 2
	}
	return a
}

func known(a api.Bit) bool { return a == 0 || a == 1 }

// below is the information order, written independently of bit.Leq.
func below(a, b api.Bit) bool {
	if known(as(a)) {
		return a == b
	}
	return known(as(b)) || as(a) == as(b)
}

// state returns the bit of a character of the tables of these tests.
func state(c byte) api.Bit {
	for i, d := range []byte("01xz") {
		if c == d {
			return api.Bit(i)
		}
	}
	panic("no state")
}

var unary = map[string]func(api.Bit) api.Bit{"Not": bit.Not, "Buf": bit.Buf}

var binary = map[string]func(a, b api.Bit) api.Bit{"And": bit.And, "Or": bit.Or, "Xor": bit.Xor, "Eq": bit.Eq}

// P1.1: Valid is the only function that sees the values above BZ.
func TestValid(t *testing.T) {
	for _, a := range every() {
		if got := bit.Valid(a); got != (a < 4) {
			t.Errorf("Valid(%d) returned %t", a, got)
		}
	}
}

// P1.1: z, x and the values above BZ are not known.
func TestKnown(t *testing.T) {
	for _, a := range every() {
		if got := bit.Known(a); got != (a < 2) {
			t.Errorf("Known(%d) returned %t", a, got)
		}
	}
}

// P1.1: x and z differ, all values above BZ are x.
func TestSame(t *testing.T) {
	for _, a := range every() {
		for _, b := range every() {
			if got := bit.Same(a, b); got != (as(a) == as(b)) {
				t.Fatalf("Same(%d, %d) returned %t", a, b, got)
			}
		}
	}
}

// P1.1: the information order on the four states and on the values above BZ.
func TestLeq(t *testing.T) {
	rows := []string{"1000", "0100", "1110", "1101"}
	for _, a := range every() {
		for _, b := range every() {
			want := rows[as(a)][as(b)] == '1'
			if got := bit.Leq(a, b); got != want {
				t.Fatalf("Leq(%d, %d) returned %t, want %t", a, b, got, want)
			}
		}
	}
}

// P1.2: Not and Buf on every value.
func TestUnary(t *testing.T) {
	for name, row := range map[string]string{"Not": "10xx", "Buf": "01xx"} {
		for _, a := range every() {
			want := state(row[as(a)])
			if got := unary[name](a); got != want {
				t.Errorf("%s(%d) returned %d, want %d", name, a, got, want)
			}
		}
	}
}

// P1.2: And, Or, Xor and Eq on every pair of values.
func TestBinary(t *testing.T) {
	for name, rows := range map[string][]string{
		"And": {"0000", "01xx", "0xxx", "0xxx"},
		"Or":  {"01xx", "1111", "x1xx", "x1xx"},
		"Xor": {"01xx", "10xx", "xxxx", "xxxx"},
		"Eq":  {"10xx", "01xx", "xxxx", "xxxx"},
	} {
		for _, a := range every() {
			for _, b := range every() {
				want := state(rows[as(a)][as(b)])
				if got := binary[name](a, b); got != want {
					t.Fatalf("%s(%d, %d) returned %d, want %d", name, a, b, got, want)
				}
			}
		}
	}
}

// wantMux is P1.3 word for word.
func wantMux(sel, a, b api.Bit) api.Bit {
	chosen := api.BX
	switch {
	case sel == 1:
		chosen = a
	case sel == 0:
		chosen = b
	case a == b:
		chosen = a
	}
	if !known(chosen) {
		return api.BX
	}
	return chosen
}

// P1.3: Mux on every triple of values.
func TestMux(t *testing.T) {
	for _, sel := range every() {
		for _, a := range every() {
			for _, b := range every() {
				if got, want := bit.Mux(sel, a, b), wantMux(sel, a, b); got != want {
					t.Fatalf("Mux(%d, %d, %d) returned %d, want %d", sel, a, b, got, want)
				}
			}
		}
	}
}

// P1.4: FromBool.
func TestFromBool(t *testing.T) {
	if got := bit.FromBool(true); got != api.B1 {
		t.Errorf("FromBool(true) returned %d", got)
	}
	if got := bit.FromBool(false); got != api.B0 {
		t.Errorf("FromBool(false) returned %d", got)
	}
}

// P1.4: Char on every value.
func TestChar(t *testing.T) {
	for _, a := range every() {
		if got, want := bit.Char(a), "01xz"[as(a)]; got != want {
			t.Errorf("Char(%d) returned %q, want %q", a, got, want)
		}
	}
}

// P1.4: Parse on every character; for one that denotes no bit the bit is zero (R1).
func TestParse(t *testing.T) {
	denotes := map[byte]api.Bit{'0': api.B0, '1': api.B1, 'x': api.BX, 'X': api.BX, 'z': api.BZ, 'Z': api.BZ, '?': api.BZ}
	for i := range 256 {
		c := byte(i)
		want, wantIs := denotes[c]
		if got, is := bit.Parse(c); got != want || is != wantIs {
			t.Errorf("Parse(%q) returned %d, %t, want %d, %t", c, got, is, want, wantIs)
		}
	}
}

// P1.5: refining an argument of a unary or binary operator refines its result.
func TestMonotone(t *testing.T) {
	for name, f := range unary {
		for _, a := range wild {
			for _, b := range wild {
				if below(a, b) && !below(f(a), f(b)) {
					t.Errorf("%s is not monotone from %d to %d", name, a, b)
				}
			}
		}
	}
	for name, f := range binary {
		for _, p := range pairs() {
			for _, q := range pairs() {
				if below(p[0], q[0]) && below(p[1], q[1]) && !below(f(p[0], p[1]), f(q[0], q[1])) {
					t.Errorf("%s is not monotone from %d to %d", name, p, q)
				}
			}
		}
	}
}

// pairs returns all pairs of values of wild.
func pairs() [][2]api.Bit {
	var l [][2]api.Bit
	for _, a := range wild {
		for _, b := range wild {
			l = append(l, [2]api.Bit{a, b})
		}
	}
	return l
}

// P1.5: refining an argument of Mux refines its result.
func TestMonotoneMux(t *testing.T) {
	for _, s := range pairs() {
		for _, p := range pairs() {
			for _, q := range pairs() {
				if !below(s[0], s[1]) || !below(p[0], q[0]) || !below(p[1], q[1]) {
					continue
				}
				if !below(bit.Mux(s[0], p[0], p[1]), bit.Mux(s[1], q[0], q[1])) {
					t.Errorf("Mux is not monotone from %d, %d to %d, %d", s[0], p, s[1], q)
				}
			}
		}
	}
}

// P1.6: on known arguments the operators are the Boolean ones.
func TestBoolean(t *testing.T) {
	of := bit.FromBool
	for _, a := range []bool{false, true} {
		if bit.Not(of(a)) != of(!a) || bit.Buf(of(a)) != of(a) {
			t.Errorf("Not or Buf of %t is not the Boolean one", a)
		}
		for _, b := range []bool{false, true} {
			if bit.And(of(a), of(b)) != of(a && b) || bit.Or(of(a), of(b)) != of(a || b) {
				t.Errorf("And or Or of %t and %t is not the Boolean one", a, b)
			}
			if bit.Xor(of(a), of(b)) != of(a != b) || bit.Eq(of(a), of(b)) != of(a == b) {
				t.Errorf("Xor or Eq of %t and %t is not the Boolean one", a, b)
			}
			if bit.Mux(api.B1, of(a), of(b)) != of(a) || bit.Mux(api.B0, of(a), of(b)) != of(b) {
				t.Errorf("Mux of %t and %t is not the Boolean one", a, b)
			}
		}
	}
}

// P1.7: commutative laws, idempotence up to Buf, and De Morgan's laws.
func TestAlgebraOfPairs(t *testing.T) {
	for _, p := range pairs() {
		a, b := p[0], p[1]
		for _, name := range []string{"And", "Or", "Xor"} {
			if f := binary[name]; f(a, b) != f(b, a) {
				t.Errorf("%s of %d and %d is not commutative", name, a, b)
			}
		}
		if bit.And(a, a) != bit.Buf(a) || bit.Or(a, a) != bit.Buf(a) {
			t.Errorf("And or Or of %d is not idempotent", a)
		}
		if bit.Not(bit.And(a, b)) != bit.Or(bit.Not(a), bit.Not(b)) || bit.Not(bit.Or(a, b)) != bit.And(bit.Not(a), bit.Not(b)) {
			t.Errorf("%d and %d violate De Morgan's laws", a, b)
		}
	}
}

// P1.7: associative and distributive laws.
func TestAlgebraOfTriples(t *testing.T) {
	for _, p := range pairs() {
		for _, c := range wild {
			a, b := p[0], p[1]
			for _, name := range []string{"And", "Or", "Xor"} {
				if f := binary[name]; f(f(a, b), c) != f(a, f(b, c)) {
					t.Errorf("%s of %d, %d and %d is not associative", name, a, b, c)
				}
			}
			if bit.And(a, bit.Or(b, c)) != bit.Or(bit.And(a, b), bit.And(a, c)) {
				t.Errorf("And does not distribute over Or for %d, %d and %d", a, b, c)
			}
			if bit.Or(a, bit.And(b, c)) != bit.And(bit.Or(a, b), bit.Or(a, c)) {
				t.Errorf("Or does not distribute over And for %d, %d and %d", a, b, c)
			}
		}
	}
}

// P1.8: Leq is an order.
func TestOrder(t *testing.T) {
	for _, p := range pairs() {
		a, b := p[0], p[1]
		if !bit.Leq(a, a) {
			t.Errorf("Leq is not reflexive for %d", a)
		}
		if bit.Leq(a, b) && bit.Leq(b, a) && !bit.Same(a, b) {
			t.Errorf("Leq is not antisymmetric for %d and %d", a, b)
		}
		for _, c := range wild {
			if bit.Leq(a, b) && bit.Leq(b, c) && !bit.Leq(a, c) {
				t.Errorf("Leq is not transitive for %d, %d and %d", a, b, c)
			}
		}
	}
}

// P1.9: Parse inverts Char.
func TestCharacters(t *testing.T) {
	for _, a := range every() {
		if got, is := bit.Parse(bit.Char(a)); !is || got != as(a) {
			t.Errorf("Parse(Char(%d)) returned %d, %t", a, got, is)
		}
	}
}

// The examples of the chapter.
func TestExamples(t *testing.T) {
	for _, x := range []struct {
		name      string
		got, want api.Bit
	}{
		{"And(0, x)", bit.And(api.B0, api.BX), api.B0},
		{"And(1, z)", bit.And(api.B1, api.BZ), api.BX},
		{"Or(1, x)", bit.Or(api.B1, api.BX), api.B1},
		{"Xor(x, x)", bit.Xor(api.BX, api.BX), api.BX},
		{"Mux(x, 1, 1)", bit.Mux(api.BX, api.B1, api.B1), api.B1},
		{"Mux(x, 1, 0)", bit.Mux(api.BX, api.B1, api.B0), api.BX},
		{"Mux(1, z, 0)", bit.Mux(api.B1, api.BZ, api.B0), api.BX},
	} {
		if x.got != x.want {
			t.Errorf("%s returned %d, want %d", x.name, x.got, x.want)
		}
	}
	if !bit.Leq(api.BX, api.B0) || bit.Leq(api.BX, api.BZ) {
		t.Errorf("Leq(x, 0) is false, or Leq(x, z) is true")
	}
	if a, is := bit.Parse('?'); a != api.BZ || !is {
		t.Errorf("Parse('?') returned %d, %t", a, is)
	}
}
