package literal_test

import (
	"fmt"
	"slices"
	"strings"
	"testing"

	"netlab/api"
	"netlab/literal"
)

// P5.5: formatting a parsed vector in base 2 and parsing it again returns the same vector.
func TestCanonicalForm(t *testing.T) {
	for _, s := range literals() {
		v, _, e := literal.Parse(s, 0)
		if e != api.OK {
			t.Fatalf("Parse of %s: got error %d", s, e)
		}
		b, e := literal.Format(v, 'b')
		if e != api.OK {
			t.Fatalf("Format of %s: got error %d", s, e)
		}
		same(t, s, parse(b, 0), parsed{text(v), len(b), api.OK})
	}
}

// digitEnds returns the offsets after the digits of a literal.
func digitEnds(s string) []int {
	size, _, based := strings.Cut(s, "'")
	var l []int
	for i := range len(s) {
		base := len(size) + 1 // the offset of the base letter
		if based && strings.ContainsAny(s[base:base+1], "sS") {
			base++
		}
		if s[i] != '_' && (i < len(size) || i > base) {
			l = append(l, i+1)
		}
	}
	return l
}

// P5.6: underscores after a digit change only the offset.
func TestUnderscores(t *testing.T) {
	for _, s := range literals() {
		want := parse(s, 0)
		everywhere := s
		ends := digitEnds(s)
		for i, at := range slices.Backward(ends) {
			everywhere = everywhere[:at] + "__" + everywhere[at:]
			if len(s) > 40 && i > 2 {
				continue // the digits of long literals repeat themselves
			}
			for n := 1; n <= 3; n += 2 {
				with := s[:at] + strings.Repeat("_", n) + s[at:]
				same(t, with, parse(with, 0), parsed{want.vec, want.next + n, want.e})
			}
		}
		same(t, everywhere, parse(everywhere, 0), parsed{want.vec, want.next + 2*len(ends), want.e})
	}
}

// someLiterals holds a literal of each kind.
var someLiterals = []string{"0", "25", "2147483647", "1_0_", "8'hF", "'b1", "4'bx1", "6'sb1_01", "4'dz", "4'dX_", "'so7?", "8'hxz1", "128'd99", "3'B?"}

// P5.7: what stands before a literal does not matter.
func TestContextBefore(t *testing.T) {
	before := []string{"", "a", "12", "_", "'", "4'", "4'b", "4'b1", "8'h", "?", "c ? ", "\"", "// ", "\u00e9", "\u00e9'", "\xc3", strings.Repeat("9", 1000)}
	for c := range 256 {
		before = append(before, string([]byte{byte(c)}))
	}
	for _, s := range someLiterals {
		want := parse(s, 0)
		for _, b := range before {
			same(t, fmt.Sprintf("%q at %d", b+s, len(b)), parse(b+s, len(b)), parsed{want.vec, want.next + len(b), api.OK})
		}
	}
}

// P5.7: what follows a literal does not matter, unless it continues the literal.
func TestContextAfter(t *testing.T) {
	var after []string
	for c := range 256 {
		b := string([]byte{byte(c)})
		if c == '_' || c == '\'' || c == '?' || c >= '0' && c <= '9' || c >= 'a' && c <= 'z' || c >= 'A' && c <= 'Z' {
			continue
		}
		after = append(after, b, b+"1", b+"'b1", b+"x?", b+"\xff")
	}
	after = append(after, "", " 'h1", "+1", ":1'b0", ";", "\u00e91", "\u0130", "\u0131", "\u017f", "\u212a", "\uff21", "\uff11", "\u2019b1", "\xc4", "\xb0", "\xc4\xb00", "\xff1", "\ufffd1", "\U00010430", strings.Repeat("+1", 30000))
	for _, s := range someLiterals {
		want := parse(s, 0)
		for _, a := range after {
			same(t, fmt.Sprintf("%.40q", s+a), parse(s+a, 0), want)
			same(t, fmt.Sprintf("%.40q after 8'h", s+a), parse("8'h"+s+a, 3), parsed{want.vec, want.next + 3, api.OK})
		}
	}
}

// P5.7: what continues a literal: a letter, digit or underscore, an apostrophe after a size, and a question mark after a base.
func TestContinued(t *testing.T) {
	for s, want := range map[string]parsed{
		"8'hF1": {"11110001", 5, api.OK}, "8'hFa": {"11111010", 5, api.OK}, "8'hF_": {"00001111", 5, api.OK}, "8'hF?": {"1111zzzz", 5, api.OK}, "8'hF'": {"00001111", 4, api.OK}, "8'hF'b1": {"00001111", 4, api.OK},
		"8'hFg": {e: api.ErrForm}, "8'hFs": {e: api.ErrForm}, "2?": {"s" + strings.Repeat("0", 30) + "10", 1, api.OK}, "2'": {e: api.ErrShort}, "2'b1": {"01", 4, api.OK}, "2a": {e: api.ErrForm}, "2_": {"s" + strings.Repeat("0", 30) + "10", 2, api.OK},
		"4'd1?": {e: api.ErrForm}, "4'dx?": {e: api.ErrForm}, "4'd1z": {e: api.ErrForm},
	} {
		same(t, s, parse(s, 0), want)
	}
}

// P5.8: without x and z, a smaller size denotes the same bits, shortened.
func TestSmallerSizes(t *testing.T) {
	for _, base := range []byte(bases) {
		for _, digits := range digitsOf(base) {
			if strings.ContainsAny(digits, "xXzZ?") {
				continue
			}
			for _, letters := range []string{string(base), "s" + string(base)} {
				widest, _, e := literal.Parse("128'"+letters+digits, 0)
				if e != api.OK {
					t.Fatalf("Parse of 128'%s%s: got error %d", letters, digits, e)
				}
				check := func(size string, width int) {
					t.Helper()
					s := size + "'" + letters + digits
					shortened := api.Vec{Bits: widest.Bits[:width], Signed: widest.Signed}
					same(t, s, parse(s, 0), parsed{text(shortened), len(s), api.OK})
				}
				for width := 1; width <= 128; width++ {
					check(fmt.Sprint(width), width)
				}
				check("", 32)
			}
		}
	}
}

// P5.9: overwriting the result of Parse, and the memory behind it, changes no other result.
func TestParseIndependence(t *testing.T) {
	for _, s := range literals() {
		want := parse(s, 0)
		v, _, _ := literal.Parse(s, 0)
		w, _, _ := literal.Parse(s, 0)
		bits := v.Bits[:cap(v.Bits)]
		for i := range bits {
			bits[i] = 7
		}
		if text(w) != want.vec {
			t.Fatalf("%s: overwriting a result changed an earlier one to %s", s, text(w))
		}
		same(t, s, parse(s, 0), want)
	}
}

// P5.9: Format and Digits change neither the vector nor the memory behind it, and their results do not depend on it later.
func TestFormatIndependence(t *testing.T) {
	for _, v := range append(every(3), wide()...) {
		for _, base := range []byte(bases) {
			memory := append(slices.Clone(v.Bits), 7, api.BX, 9)
			before := slices.Clone(memory)
			given := api.Vec{Bits: memory[:len(v.Bits)], Signed: v.Signed}
			digits, _ := literal.Digits(given, base)
			s, _ := literal.Format(given, base)
			digitsThen, literalThen := strings.Clone(digits), strings.Clone(s)
			if !slices.Equal(memory, before) || given.Signed != v.Signed {
				t.Fatalf("formatting %s in base %c changed it", text(v), base)
			}
			for i := range memory {
				memory[i] = api.BZ
			}
			if digits != digitsThen || s != literalThen {
				t.Fatalf("the texts of %s in base %c changed with the vector", text(v), base)
			}
			again, _ := literal.Digits(v, base)
			written(t, "Digits again", v, base, again, api.OK, digits)
		}
	}
}
