package literal_test

import (
	"fmt"
	"strings"
	"testing"

	"netlab/api"
	"netlab/literal"
)

// written fails the test unless the text is want, without an error.
func written(t *testing.T, name string, v api.Vec, base byte, got string, e api.Errno, want string) {
	t.Helper()
	if got != want || e != api.OK {
		t.Fatalf("%s of %s in base %c: got %q and error %d, want %q", name, text(v), base, got, e, want)
	}
}

// refused fails the test unless the error is want and the text is empty.
func refused(t *testing.T, name string, v api.Vec, base byte, got string, e, want api.Errno) {
	t.Helper()
	if got != "" || e != want {
		t.Fatalf("%s of %s in base %d: got %q and error %d, want error %d", name, text(v), base, got, e, want)
	}
}

// P5.3: digits of vectors that show each rule.
func TestDigitsExamples(t *testing.T) {
	for _, x := range []struct{ bits, b, o, d, h string }{
		{"1x01", "1x01", "1X", "X", "X"}, {"0", "0", "0", "0", "0"}, {"s1", "1", "1", "-1", "1"}, {"1", "1", "1", "1", "1"}, {"x", "x", "x", "x", "x"}, {"sz", "z", "z", "z", "z"},
		{"s1101", "1101", "15", "-3", "d"}, {"1101", "1101", "15", "13", "d"}, {"s1000", "1000", "10", "-8", "8"}, {"01011010", "01011010", "132", "90", "5a"}, {"11111111", "11111111", "377", "255", "ff"},
		{"xxxx", "xxxx", "xx", "x", "x"}, {"zzzzz", "zzzzz", "zz", "z", "zz"}, {"xxzz", "xxzz", "xX", "X", "X"}, {"zzz0", "zzz0", "zZ", "Z", "Z"}, {"z1111", "z1111", "Z7", "Z", "zf"}, {"x0000z", "x0000z", "XZ", "X", "XZ"},
		{"zzzz0001", "zzzz0001", "zZ1", "Z", "z1"}, {"00001010", "00001010", "012", "10", "0a"}, {"sxx", "xx", "x", "x", "x"}, {"zx", "zx", "X", "X", "X"}, {"xxxxx1", "xxxxx1", "xX", "X", "xX"},
		{"1" + strings.Repeat("0", 127), "1" + strings.Repeat("0", 127), "2" + strings.Repeat("0", 42), "170141183460469231731687303715884105728", "8" + strings.Repeat("0", 31)},
		{"s1" + strings.Repeat("0", 127), "1" + strings.Repeat("0", 127), "2" + strings.Repeat("0", 42), "-170141183460469231731687303715884105728", "8" + strings.Repeat("0", 31)},
		{strings.Repeat("1", 128), strings.Repeat("1", 128), "3" + strings.Repeat("7", 42), "340282366920938463463374607431768211455", strings.Repeat("f", 32)},
	} {
		for i, want := range []string{x.b, x.o, x.d, x.h} {
			got, e := literal.Digits(of(x.bits), bases[i])
			written(t, "Digits", of(x.bits), bases[i], got, e, want)
		}
	}
}

// P5.3: Digits follows the definition, for every width.
func TestDigits(t *testing.T) {
	for _, v := range vectors() {
		for _, base := range []byte(bases) {
			got, e := literal.Digits(v, base)
			written(t, "Digits", v, base, got, e, wantDigits(v, base))
		}
	}
}

// P5.2: literals of the chapter's vectors and some others.
func TestFormatExamples(t *testing.T) {
	for _, x := range []struct {
		bits string
		base byte
		want string
	}{
		{"1x01", 'b', "4'b1x01"}, {"s01011010", 'b', "8'sb01011010"}, {"s01011010", 'o', "8'so132"}, {"s01011010", 'd', "8'sd90"}, {"s01011010", 'h', "8'sh5a"},
		{"zzzz", 'd', "4'dz"}, {"sxxxx", 'd', "4'sdx"}, {"zzzz0001", 'h', "8'hz1"}, {"x", 'o', "1'ox"}, {"s1", 'h', "1'sh1"}, {"s1101", 'h', "4'shd"}, {"xx001", 'o', "5'ox1"},
		{strings.Repeat("1", 128), 'h', "128'h" + strings.Repeat("f", 32)}, {"s" + strings.Repeat("x", 128), 'd', "128'sdx"},
	} {
		got, e := literal.Format(of(x.bits), x.base)
		written(t, "Format", of(x.bits), x.base, got, e, x.want)
	}
	for _, x := range []struct {
		bits string
		base byte
	}{
		{"1x01", 'h'}, {"1x01", 'o'}, {"1x01", 'd'}, {"s1101", 'd'}, {"s1", 'd'}, {"zx", 'o'}, {"10zz", 'h'}, {"zzzz0", 'd'}, {"s1" + strings.Repeat("0", 127), 'd'}, {"z1", 'h'},
	} {
		got, e := literal.Format(of(x.bits), x.base)
		refused(t, "Format", of(x.bits), x.base, got, e, api.ErrNone)
	}
}

// P5.2, P5.4: Format returns width, apostrophe, s, base and digits, exactly if no digit is in upper case and the digits are not negative.
func TestFormat(t *testing.T) {
	for _, v := range vectors() {
		sign := ""
		if v.Signed {
			sign = "s"
		}
		for _, base := range []byte(bases) {
			digits := wantDigits(v, base)
			got, e := literal.Format(v, base)
			if strings.ContainsAny(digits, "XZ-") {
				refused(t, "Format", v, base, got, e, api.ErrNone)
				continue
			}
			written(t, "Format", v, base, got, e, fmt.Sprintf("%d'%s%c%s", len(v.Bits), sign, base, digits))
		}
	}
}

// P5.4: there is a literal in base 2 for every valid vector.
func TestFormatBinary(t *testing.T) {
	for _, v := range vectors() {
		if s, e := literal.Format(v, 'b'); e != api.OK {
			t.Fatalf("Format of %s in base b: got %q and error %d", text(v), s, e)
		}
	}
}

// P5.4: parsing a formatted vector returns the vector and the length of the text.
func TestRoundTrip(t *testing.T) {
	for _, v := range vectors() {
		for _, base := range []byte(bases) {
			if s, e := literal.Format(v, base); e == api.OK {
				same(t, s, parse(s, 0), parsed{text(v), len(s), api.OK})
			}
		}
	}
}

// badVectors holds invalid vectors with the errors of vec.Check.
func badVectors() map[api.Errno][]api.Vec {
	filled := func(n int, b api.Bit) []api.Bit {
		bits := make([]api.Bit, n)
		for i := range bits {
			bits[i] = b
		}
		return bits
	}
	return map[api.Errno][]api.Vec{
		api.ErrShort: {{}, {Signed: true}, {Bits: []api.Bit{}}, {Bits: make([]api.Bit, 0, 8), Signed: true}},
		api.ErrLong:  {{Bits: filled(129, api.B0)}, {Bits: filled(129, api.BX), Signed: true}, {Bits: filled(200, 4)}, {Bits: filled(70000, api.B1)}},
		api.ErrArg:   {{Bits: []api.Bit{4}}, {Bits: []api.Bit{255}, Signed: true}, {Bits: []api.Bit{api.B1, 4}}, {Bits: []api.Bit{4, api.BX}}, {Bits: filled(128, 5)}, {Bits: append(filled(127, api.B1), 4)}},
	}
}

// P5.2, P5.3: an invalid vector has the error of vec.Check, in every base.
func TestFormatInvalid(t *testing.T) {
	for want, l := range badVectors() {
		for _, v := range l {
			for base := range 256 {
				got, e := literal.Digits(v, byte(base))
				refused(t, "Digits", v, byte(base), got, e, want)
				got, e = literal.Format(v, byte(base))
				refused(t, "Format", v, byte(base), got, e, want)
			}
		}
	}
}

// P5.2, P5.3: only b, o, d and h are bases, and that is checked before the digits are.
func TestFormatBases(t *testing.T) {
	for _, v := range []api.Vec{of("0"), of("s1"), of("x"), of("1x01"), of("s" + strings.Repeat("z", 128)), of(strings.Repeat("1", 128))} {
		for base := range 256 {
			if strings.IndexByte(bases, byte(base)) >= 0 {
				continue
			}
			got, e := literal.Digits(v, byte(base))
			refused(t, "Digits", v, byte(base), got, e, api.ErrKind)
			got, e = literal.Format(v, byte(base))
			refused(t, "Format", v, byte(base), got, e, api.ErrKind)
		}
	}
}
