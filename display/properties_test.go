package display_test

import (
	"fmt"
	"strings"
	"testing"

	"netlab/api"
	"netlab/display"
	"netlab/literal"
)

// format returns the result of Format, which must have one.
func format(t *testing.T, f string, args ...api.Vec) string {
	t.Helper()
	s, e := display.Format(f, args, 1234)
	if e != api.OK {
		t.Fatalf("Format of %.80q with %s got error %d", f, written(args), e)
	}
	return s
}

// known reports whether all bits of v are known.
func known(v api.Vec) bool { return !strings.ContainsAny(chars(v), "xz") }

// P6.3: formatting a concatenation yields the concatenation of the results.
func TestConcatenation(t *testing.T) {
	texts := []string{"", " ", "5", "d", "%%", "%%5", "%t", "%0t", "a=%d", "%4b%s", "%c", "%0x%%%o", "%s%%", "%d%d%d", "%T%D", "\xff%5s\x00", "5d%12h0"}
	args := list("0101", "s1000", "1x0z", bytesText("Hi"), "0", strings.Repeat("1", 128), "xxxx")
	for _, f := range texts {
		for _, g := range texts {
			n, e := display.Count(f)
			m, e2 := display.Count(g)
			if e != api.OK || e2 != api.OK {
				t.Fatalf("Count of %q and %q: got errors %d and %d", f, g, e, e2)
			}
			counts(t, f+g, n+m, api.OK)
			want := format(t, f, args[:n]...) + format(t, g, args[n:n+m]...)
			formats(t, f+g, args[:n+m], 1234, want)
		}
	}
}

// P6.4: a text without percent signs is unchanged, and doubling the percent signs yields the text.
func TestPlainText(t *testing.T) {
	texts := []string{"", "%", "%%", "%%%", "d", "%d", "%5d", "100% sure", "%q%", "a\nb\tc\x00", "\u00e9\u212a\u4e16", "\xff\xfe", "5", "0d", strings.Repeat("%", 32768), strings.Repeat("a%b", 10000)}
	for c := range 256 {
		b := string([]byte{byte(c)})
		texts = append(texts, b, b+b, "%"+b, b+"%", "%5"+b, "a"+b+"d")
	}
	for _, s := range texts {
		doubled := strings.ReplaceAll(s, "%", "%%")
		counts(t, doubled, 0, api.OK)
		formats(t, doubled, nil, 0, s)
		if !strings.Contains(s, "%") {
			formats(t, s, nil, 0, s)
		}
	}
}

// P6.5: the output of %b behind the width, an apostrophe and b is a literal of the bits, and %0d of a known vector is its value.
func TestNumbers(t *testing.T) {
	for _, v := range append(every(4), wide()...) {
		s := format(t, fmt.Sprintf("%d'b%%b", len(v.Bits)), v)
		w, next, e := literal.Parse(s, 0)
		if e != api.OK || next != len(s) || chars(w) != chars(v) {
			t.Fatalf("Parse of %s: got %s, offset %d and error %d, want %s", s, chars(w), next, e, chars(v))
		}
		if known(v) {
			formats(t, "%0d", []api.Vec{v}, 0, value(v).String())
		}
	}
}

// P6.6: a greater minimum width only adds spaces, or zeros, on the left; that of c has no effect.
func TestMinimumWidths(t *testing.T) {
	for _, v := range append(every(3), wide()[1000:1500]...) {
		for _, letter := range conversions + "tT" {
			args, fill := []api.Vec{v}, "0"
			switch letter {
			case 't', 'T':
				args, fill = nil, " "
			case 'd', 'D', 's', 'S':
				fill = " "
			case 'c', 'C':
				fill = ""
			}
			before := format(t, fmt.Sprintf("%%0%c", letter), args...)
			for _, width := range []int{1, 2, 3, 5, 9, 10, 43, 99, 100, 129, 500, 999} {
				want := strings.Repeat(fill, max(0, width-len(before))) + before
				formats(t, fmt.Sprintf("%%%d%c", width, letter), args, 1234, want)
				before = want
			}
		}
	}
}

// P6.7: known vectors of the same width and sign have columns of the same length, in which the longest of them just fits.
func TestColumns(t *testing.T) {
	type column struct {
		letter rune
		width  int
		signed bool
	}
	lengths, greatest := map[column]int{}, map[column]int{}
	for _, v := range append(every(6), wide()...) {
		for _, letter := range "bodhxBODHX" {
			c := column{letter, len(v.Bits), v.Signed}
			s := format(t, "%"+string(letter), v)
			if before, found := lengths[c]; found && before != len(s) && known(v) {
				t.Fatalf("%%%c of %s: got %q, want %d bytes", letter, chars(v), s, before)
			}
			if known(v) {
				lengths[c] = len(s)
				greatest[c] = max(greatest[c], len(strings.TrimLeft(s, " ")))
			}
		}
	}
	for c, length := range lengths {
		if greatest[c] != length {
			t.Errorf("%%%c of %d bits (signed %t): the columns have %d bytes, the longest number %d", c.letter, c.width, c.signed, length, greatest[c])
		}
	}
}

// P6.8: %s of the concatenation of bytes other than 0 consists of these bytes.
func TestStrings(t *testing.T) {
	texts := []string{"a", "Hello, world", " x ", "%d%%", "\xff\x01\x80", "\u00e9\u4e16", "16 bytes of text", "\t\n\"\\"}
	for c := 1; c < 256; c++ {
		b := string([]byte{byte(c)})
		texts = append(texts, b, b+"a", "a"+b, strings.Repeat(b, 16), "abc"+b+b+"xyz")
	}
	for _, s := range texts {
		for _, sign := range []string{"", "s"} {
			v := of(sign + bytesText(s))
			for _, f := range []string{"%s", "%S", "%0s", "%1s"} {
				formats(t, f, []api.Vec{v}, 0, s)
			}
			formats(t, "%20s", []api.Vec{v}, 0, strings.Repeat(" ", 20-len(s))+s)
			formats(t, "%c", []api.Vec{v}, 0, s[len(s)-1:])
		}
	}
}
