package literal_test

import (
	"fmt"
	"math"
	"strings"
	"testing"

	"netlab/api"
	"netlab/literal"
)

// plainLiterals holds literals without a base.
var plainLiterals = []string{
	"0", "1", "7", "9", "25", "00", "007", "1_0", "1_", "0_", "9__", "1__2___3_", "65536", "2147483647", "2_147_483_647", "0002147483647", "2147483647___",
	strings.Repeat("0", 1000) + "12", "1" + strings.Repeat("_", 1000),
}

// sizes holds sizes of based literals.
var sizes = []string{"", "1", "2", "3", "4", "5", "6", "7", "8", "9", "16", "31", "32", "33", "63", "64", "65", "100", "126", "127", "128", "008", "0128", "1_6", "1__2_8_", "9_"}

// digitsOf returns digits in a base.
func digitsOf(base byte) []string {
	unknown := []string{"x", "X", "z", "Z", "?", "x_", "X__", "z___", "?_"}
	mixed := append(unknown, "x1", "1x", "z1", "1z", "?1", "1?", "X0", "Z0", "xz", "zx", "x0z", "10xz", "0x_z?1_", "x"+strings.Repeat("1", 130), "z"+strings.Repeat("0", 255), strings.Repeat("x", 256), "1"+strings.Repeat("?", 40))
	known := []string{"0", "1", "10", "01", "1_0", "1_", "0_1__0___", "00000001", "1" + strings.Repeat("0", 127), "1" + strings.Repeat("0", 128), strings.Repeat("1", 255), strings.Repeat("10", 128), strings.Repeat("0_", 255) + "1", strings.Repeat("1_____", 200)}
	switch base {
	case 'b':
		return append(mixed, known...)
	case 'o':
		return append(append(mixed, known...), "7", "2", "17", "7_6", "1234567", "x7", "7x", "z70", "07?", "3xZ5", strings.Repeat("7", 42), strings.Repeat("6", 43), strings.Repeat("5", 256))
	case 'd':
		return append(append(unknown, known...), "9", "2", "19", "255", "256", "1_000_000", "4294967295", "4294967296", "340282366920938463463374607431768211455", "340282366920938463463374607431768211456", strings.Repeat("9", 256), "1234567890"+strings.Repeat("0987654321", 24), strings.Repeat("0", 250)+"987654")
	}
	return append(append(mixed, known...), "f", "F", "a", "A", "9", "aF", "Fa", "DEAD_beef", "0123456789abcdefABCDEF", "xF", "fX", "z0e", "0B1", "dD", "bx1", "?c", strings.Repeat("f", 31), strings.Repeat("a", 32), strings.Repeat("5", 33), strings.Repeat("c", 256))
}

// basedLiterals returns literals of all bases, in lower and upper case, with and without size and s.
func basedLiterals() []string {
	var l []string
	for _, base := range []byte(bases) {
		for _, digits := range digitsOf(base) {
			for _, size := range sizes {
				for _, sign := range []string{"", "s", "S"} {
					for _, letter := range []string{string(base), strings.ToUpper(string(base))} {
						l = append(l, size+"'"+sign+letter+digits)
					}
				}
			}
		}
	}
	return l
}

// literals returns literals of all kinds.
func literals() []string { return append(basedLiterals(), plainLiterals...) }

// P5.1: the examples of the chapter.
func TestParseExamples(t *testing.T) {
	for s, want := range map[string]string{
		"25": "s" + strings.Repeat("0", 27) + "11001", "8'hF": "00001111", "4'bx1": "xxx1", "6'sb1_01": "s000101", "3'd9": "001", "4'dz": "zzzz",
		"'hz": strings.Repeat("z", 32), "8'hxz1": "zzzz0001", "'d5": strings.Repeat("0", 29) + "101", "'sb1": "s" + strings.Repeat("0", 31) + "1",
		"4'b?": "zzzz", "4'Sd9": "s1001", "4'O17": "1111", "8'sb1": "s00000001", "12'HX_1": "xxxxxxxx0001", "1'dX": "x", "2'd7": "11",
	} {
		same(t, s, parse(s, 0), parsed{want, len(s), api.OK})
	}
}

// P5.1: every literal denotes the vector of the definition and is consumed as a whole.
func TestParse(t *testing.T) {
	for _, s := range literals() {
		want := wantParse(s, 0)
		if want.e != api.OK || want.next != len(s) {
			t.Fatalf("%s: the reference does not accept it", s)
		}
		same(t, s, parse(s, 0), want)
	}
}

// P5.1: a decimal number modulo 2^width, for every width.
func TestParseDecimal(t *testing.T) {
	next := numbers()
	for width := 1; width <= 128; width++ {
		for _, n := range []int{1, 3, 10, 20, 39, 40, 100, 256} {
			s := fmt.Sprintf("%d'd%s", width, random(next, "0123456789", n))
			same(t, s, parse(s, 0), wantParse(s, 0))
		}
	}
}

// texts calls f with all texts of up to most of the given characters.
func texts(from string, most int, f func(s string)) {
	var extend func(s string)
	extend = func(s string) {
		f(s)
		if len(s) < most {
			for i := range len(from) {
				extend(s + from[i:i+1])
			}
		}
	}
	extend("")
}

// P5.1: every short text is parsed, or rejected, as the chapter defines.
func TestParseTexts(t *testing.T) {
	check := func(s string) { same(t, fmt.Sprintf("%q", s), parse(s, 0), wantParse(s, 0)) }
	texts("018'sbdhx_?+", 5, check)
	for _, start := range []string{"'", "4'", "7's", "9'S"} {
		texts("0189aAfFgGbBoOdDhHxXzZ?_sS' \xff", 3, func(s string) { check(start + s) })
	}
}

// P5.1: the literal that starts at each kind of offset, with each kind of continuation.
func TestParseOffsets(t *testing.T) {
	for _, s := range []string{
		"", "8'hF", "12", "'b1", "a=8'hF+'sd12;", "4'b1 8'hz?:12", "1'b0'b1", "12'h1'", "4'b1'", "''", "'''b1", "4'b?1?0:1", "x?1:2'b?", "c?25?1:0", "_1 1_ 1_a", "4'b_1", "4'b1_", "a4'b1", "12ab'h1",
		"\t3'o7\n3'O8", "4'b1.5", "4'b12", "4'b1\u00e9", "\u00e9'b1", "1\u00e9", "1\xff'b1", "0'b1 129'b1 128'b1", "4'sd5$x", "1234567890123 4", "4' b1", "4 'b1", "4'/**/b1", "4's b1", "4'b\u01301", "1\u0130", "\x00'h1\x00", "1\u017f", "4'b\u212a", "4'd1x 4'dx1 4'dxx 4'dx_",
	} {
		for at := -2; at <= len(s)+2; at++ {
			same(t, fmt.Sprintf("%q at %d", s, at), parse(s, at), wantParse(s, at))
		}
	}
}

// P5.1: each byte before and after a literal.
func TestParseEachByte(t *testing.T) {
	for c := range 256 {
		b := string([]byte{byte(c)})
		for _, s := range []string{"8'hF", "12", "'b1", "4'b?", "4'dx", "4'", "4'b", "", "4's", "0'h"} {
			for _, x := range []string{b + s, s + b, s + b + "1", b + s + b, b + s + b + "'b1"} {
				for at := range len(x) + 1 {
					same(t, fmt.Sprintf("%q at %d", x, at), parse(x, at), wantParse(x, at))
				}
			}
		}
	}
}

// rejected fails the test unless Parse returns that error and no more.
func rejected(t *testing.T, s string, at int, want api.Errno) {
	t.Helper()
	v, next, e := literal.Parse(s, at)
	if e != want || next != 0 || v.Bits != nil || v.Signed {
		t.Fatalf("Parse of %.40q (%d bytes) at %d: got %s, offset %d and error %d, want error %d", s, len(s), at, text(v), next, e, want)
	}
}

// P5.1: the errors of offsets and of the length of the text, and their order.
func TestParseBounds(t *testing.T) {
	long := strings.Repeat("+", 65533) + "2'b"
	for _, at := range []int{math.MinInt, -1, 0, 65533, 65536, 65537, math.MaxInt} {
		rejected(t, long+"1", at, api.ErrLong)
		rejected(t, strings.Repeat("1", 65537), at, api.ErrLong)
	}
	long = long[1:] + "1"
	same(t, "a literal at the end of the longest text", parse(long, 65532), parsed{"01", 65536, api.OK})
	rejected(t, long, 65536, api.ErrShort)
	rejected(t, long, 0, api.ErrForm)
	for _, s := range []string{"", "1", "4'b1", long} {
		for _, at := range []int{math.MinInt, math.MinInt + 1, -2, -1, len(s) + 1, len(s) + 2, math.MaxInt - 1, math.MaxInt} {
			rejected(t, s, at, api.ErrArg)
		}
		rejected(t, s, len(s), api.ErrShort)
	}
}

// P5.1: the errors of a literal.
func TestParseErrors(t *testing.T) {
	for want, l := range map[api.Errno][]string{
		api.ErrForm: {
			"12ab", "a", "_", "_1", "x'b1", "_'b1", "1a'b1", "12x", "8h", "0x1", "1b", "+", "-1", "?", "?1", " 1", "\n", "\"", "\u00e9", "\xff", "$1",
			"4'b12", "4'b2", "4'o8", "4'd1x", "4'dx1", "4'dxx", "4'dz?", "4'dxz", "4'd0z", "4'da", "4'hg", "4'bg", "4'b1g", "4'hfg", "4'q", "4'1", "4'?", "4'x", "4'_b1",
			"4'b", "4's", "4'S", "4'sb", "4'o", "4'd", "4'h", "'b", "'h_", "4'b_", "4'b_1", "4'o_7", "4'd_9", "4'h_f", "4'sb_1", "4'dx_x", "4'd_x", "4'ss", "4'ssb1", "4'bs1", "4's_b1", "4's1", "4'b1s", "4'b1b1",
			"' ", "4' b1", "4'+", "''", "4''b1", "4'\xff", "4'\u00e91", "4's'b1", "4'b ", "4'b'1", "4'b+",
		},
		api.ErrShort: {"4'", "'", "1_'", "128'", "0008'"},
		api.ErrLong: {
			"2147483648", "2147483649", "4294967295", "4294967296", "4294967297", "9999999999", "2_147_483_648", "0002147483648", "9223372036854775807", "9223372036854775808", "18446744073709551615", "18446744073709551616", "18446744073709551617",
			strings.Repeat("9", 65536), "1" + strings.Repeat("_0", 1000),
		},
		api.ErrWidth: {
			"0'b1", "00'b1", "0_'b1", "129'b1", "130'h0", "0129'd1", "1_2_9'b1", "256'b1", "257'b1", "1000'b1", "4294967297'b1", "9223372036854775807'b1", "18446744073709551617'b1", strings.Repeat("9", 60000) + "'b1",
		},
	} {
		for _, s := range l {
			rejected(t, s, 0, want)
			if len(s) < 1000 {
				rejected(t, "a"+s, 1, want)
				rejected(t, "8'hF "+s, 5, want)
			}
			if want != api.ErrShort {
				rejected(t, s[:min(len(s), 65535)]+"\n", 0, want)
			}
		}
	}
}

// P5.1: the order of the errors of a literal.
func TestParseErrorOrder(t *testing.T) {
	many := strings.Repeat("1", 257)
	for _, x := range []struct {
		s    string
		want api.Errno
	}{
		{"a'", api.ErrForm}, {"1a'", api.ErrForm}, {"0a'b1", api.ErrForm}, {"129_a'b2", api.ErrForm}, {"9999999999a", api.ErrForm}, {"a'b" + many, api.ErrForm},
		{"0'", api.ErrWidth}, {"129'", api.ErrWidth}, {"0'q", api.ErrWidth}, {"0'b2", api.ErrWidth}, {"129'b_", api.ErrWidth}, {"129'b" + many, api.ErrWidth}, {"0' ", api.ErrWidth}, {"9999999999'", api.ErrWidth},
		{"4'b" + many + "2", api.ErrForm}, {"4'b_" + many, api.ErrForm}, {"4'd" + many + "x", api.ErrForm}, {"4'q" + many, api.ErrForm}, {"4'd" + strings.Repeat("x", 257), api.ErrForm},
	} {
		rejected(t, x.s, 0, x.want)
	}
}

// P5.1: at most 256 digits, not counting underscores.
func TestParseManyDigits(t *testing.T) {
	for _, base := range []string{"b", "o", "d", "h", "B", "O", "D", "H"} {
		for _, digit := range []string{"0", "1", "0_", "1__", "_1"} {
			for _, size := range []string{"", "1", "64", "128"} {
				start := size + "'" + base
				fits := start + "1" + strings.Repeat(digit, 255)
				same(t, fits, parse(fits, 0), wantParse(fits, 0))
				rejected(t, fits+"0", 0, api.ErrLong)
				rejected(t, fits+"_0_", 0, api.ErrLong)
				rejected(t, start+"0"+strings.Repeat(digit, 1000), 0, api.ErrLong)
			}
		}
	}
	for _, base := range []string{"b", "o", "h"} {
		rejected(t, "8'"+base+strings.Repeat("x", 257), 0, api.ErrLong)
		rejected(t, "8'"+base+strings.Repeat("?_", 257), 0, api.ErrLong)
	}
	s := "4'sb1" + strings.Repeat("_", 65536-5)
	same(t, "underscores up to the longest text", parse(s, 0), parsed{"s0001", 65536, api.OK})
	rejected(t, "4'b"+strings.Repeat("1", 65533), 0, api.ErrLong)
}
