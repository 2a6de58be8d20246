package display_test

import (
	"fmt"
	"slices"
	"strings"
	"testing"

	"netlab/api"
	"netlab/display"
	"netlab/vec"
)

// minimumWidths holds no minimum width and ones of one to three digits.
var minimumWidths = []string{"", "0", "1", "2", "3", "4", "8", "9", "00", "02", "05", "10", "12", "20", "21", "39", "40", "43", "99", "000", "007", "064", "100", "127", "128", "129", "255", "999"}

// P6.1: Count of strings with each kind of conversion.
func TestCount(t *testing.T) {
	for f, want := range map[string]int{
		"": 0, "x": 0, "a=b, c": 0, "%%": 0, "%%%%": 0, "%t": 0, "%T": 0, "%0t": 0, "%999T": 0, "%t%%%t": 0, "5d": 0, "%%d": 0, "%%5d": 0, "d%%": 0,
		"%d": 1, "%b": 1, "%c": 1, "%s": 1, "%X": 1, "%0d": 1, "%12h": 1, "%123o": 1, "%123o4": 1, "%%%d": 1, "%d%%": 1, "%%%%%x": 1, "%t%d": 1, "%dt": 1, "%1t2%d": 1,
		"%d%b": 2, "%d%%b%h": 2, "a=%d b=%b": 2, "%d%%%t%s": 2, "%b%o%d%h%x%c%s%t": 7, "%B%O%D%H%X%C%S%T": 7, "%1b%02o%003d%h%0x%9c%99s%999t%%": 7,
		strings.Repeat("%d", 32768): 32768, strings.Repeat("%%", 32768): 0, strings.Repeat("%t", 32768): 0, strings.Repeat("%001b ", 10000): 10000,
	} {
		counts(t, f, want, api.OK)
	}
}

// P6.1, P6.2: the examples of the chapter.
func TestExamples(t *testing.T) {
	formats(t, "a=%d b=%b", list("0101", "1x"), 0, "a= 5 b=1x")
	formats(t, "%0d %4h %0h %o", list("s11111101", "00001111", "00001111", "xxxxx1"), 0, "-3 000f f xX")
	formats(t, "%t|%0t%%", nil, 25, strings.Repeat(" ", 18)+"25|25%")
	formats(t, "%s!", list(bytesText("\x00Hi")), 0, "Hi!")
	refuses(t, "%q", nil, 0, api.ErrForm)
	refuses(t, "%d", nil, 0, api.ErrShort)
	refuses(t, "x", list("1"), 0, api.ErrMore)
}

// P6.2: conversions whose results show each rule.
func TestConversions(t *testing.T) {
	for _, x := range []struct{ f, arg, want string }{
		{"%b", "0010", "0010"}, {"%B", "x0z1", "x0z1"}, {"%0b", "0010", "10"}, {"%1b", "0000", "0"}, {"%3b", "0010", "010"}, {"%6b", "0010", "000010"}, {"%0b", "00x0", "x0"}, {"%5b", "00z0", "000z0"}, {"%02b", "s1111", "1111"}, {"%b", "s0", "0"},
		{"%o", "00000111", "007"}, {"%O", "xx000zz", "xXZ"}, {"%0o", "000111", "7"}, {"%4o", "111000", "0070"}, {"%0o", "000000", "0"}, {"%2o", "000xxx", "0x"}, {"%o", "s1000", "10"},
		{"%h", "00001111", "0f"}, {"%H", "10101011", "ab"}, {"%x", "11001101", "cd"}, {"%X", "11101111", "ef"}, {"%0x", "00001111", "f"}, {"%4X", "00001111", "000f"}, {"%0h", "0000xxxx", "x"}, {"%1H", "0000000x", "X"}, {"%h", "10000", "10"}, {"%0h", "s11110000", "f0"},
		{"%d", "0101", " 5"}, {"%D", "1111", "15"}, {"%0d", "0101", "5"}, {"%3d", "0101", "  5"}, {"%003D", "0101", "  5"}, {"%d", "s0101", " 5"}, {"%d", "s1011", "-5"}, {"%d", "s0000000", "  0"}, {"%d", "s1000000", "-64"}, {"%5d", "s1000", "   -8"}, {"%1d", "s1000", "-8"},
		{"%d", "1", "1"}, {"%d", "s0", " 0"}, {"%d", "s1", "-1"}, {"%d", "xxxx", " x"}, {"%d", "s000z", " Z"}, {"%0d", "zzzz", "z"}, {"%2d", "1x0z", " X"}, {"%d", "0000000", "  0"}, {"%d", "1111111", "127"}, {"%d", "0000001010", "  10"},
		{"%c", "01000001", "A"}, {"%C", "1111111101000010", "B"}, {"%c", "0", "\x00"}, {"%c", "11111111", "\xff"}, {"%c", "s1", "\x01"}, {"%c", "s1111", "\x0f"}, {"%c", "x1z0x00z1", "\x81"}, {"%c", "xxxxxxxx", "\x00"}, {"%9c", "01000001", "A"}, {"%000c", "01000001", "A"}, {"%999C", "10000000", "\x80"},
		{"%s", bytesText("Hi"), "Hi"}, {"%S", bytesText("\x00\x00Hi"), "Hi"}, {"%s", bytesText("\x00H\x00i\x00"), "H\x00i\x00"}, {"%s", "0", ""}, {"%s", strings.Repeat("x", 64), ""}, {"%3s", "0000000000", "   "}, {"%5s", bytesText("Hi"), "   Hi"}, {"%05s", bytesText("Hi"), "   Hi"}, {"%1s", bytesText("Hi"), "Hi"},
		{"%s", "1000001", "A"}, {"%s", "101000001", "\x01A"}, {"%s", "s111111111", "\x01\xff"}, {"%s", "x01000001", "A"}, {"%s", "z1x00000z1x00zz01", "\x80\x81"}, {"%s", bytesText("\xc3\xa9"), "\xc3\xa9"}, {"%3s", bytesText("\xc3\xa9"), " \xc3\xa9"}, {"%0s", bytesText("A"), "A"}, {"%s", bytesText("%d"), "%d"},
	} {
		formats(t, x.f, list(x.arg), 7, x.want)
		formats(t, "<"+x.f+">", list(x.arg), 7, "<"+x.want+">")
	}
}

// P6.2: the time, which is no argument.
func TestTime(t *testing.T) {
	for _, x := range []struct {
		f    string
		time int64
		want string
	}{
		{"%t", 0, strings.Repeat(" ", 19) + "0"}, {"%T", 1, strings.Repeat(" ", 19) + "1"}, {"%t", 1000000000000, "       1000000000000"}, {"%T", 999999999999, "        999999999999"},
		{"%0t", 0, "0"}, {"%00T", 25, "25"}, {"%000t", 1000000000000, "1000000000000"}, {"%1t", 0, "0"}, {"%5t", 0, "    0"}, {"%05t", 25, "   25"}, {"%013t", 1000000000000, "1000000000000"}, {"%14t", 1000000000000, " 1000000000000"},
		{"%020t", 7, strings.Repeat(" ", 19) + "7"}, {"%21T", 7, strings.Repeat(" ", 20) + "7"}, {"%999t", 1234, strings.Repeat(" ", 995) + "1234"}, {"%0t%0t", 3, "33"}, {"%0td", 3, "3d"},
	} {
		formats(t, x.f, nil, x.time, x.want)
	}
	formats(t, "%0t%0d%0t%b", list("011", "0z"), 9, "9390z")
}

// P6.2: every conversion in lower and upper case with every kind of minimum width, for all small vectors.
func TestSmallVectors(t *testing.T) {
	for _, v := range every(3) {
		for _, width := range minimumWidths {
			for _, letter := range conversions {
				f := fmt.Sprintf("%%%s%c", width, letter)
				formats(t, f, []api.Vec{v}, 0, wantFormat(f, []api.Vec{v}, 0))
			}
		}
	}
}

// P6.2: every conversion for vectors of every width.
func TestWideVectors(t *testing.T) {
	for _, v := range wide() {
		for _, width := range []string{"", "0", "12", "040", "130"} {
			args := []api.Vec{v, v, v, v, v, v, v}
			f := fmt.Sprintf("%%%[1]sb %%%[1]sO %%%[1]sd %%%[1]sH %%%[1]sX %%%[1]sc %%%[1]sS", width)
			formats(t, f, args, 0, wantFormat(f, args, 0))
		}
	}
}

// P6.2: the arguments are used in order, among texts and conversions that use none.
func TestOrder(t *testing.T) {
	formats(t, "%0d,%0d,%0d,%0d", list("1", "10", "11", "100"), 0, "1,2,3,4")
	formats(t, "%0d%%%0d%0t%0d%%%%%0d%0t", list("1", "10", "11", "100"), 8, "1%283%%48")
	formats(t, "%d%b%h%s%c%o", list("101", "101", "1010", bytesText("str"), bytesText("c"), "111"), 8, "5101astrc7")
	formats(t, strings.Repeat("%b", 32768), copies(32768, "1"), 0, strings.Repeat("1", 32768))
	formats(t, "\x00\xff\u00e9\n%b\x00\xff\u00e9\n", list("z"), 0, "\x00\xff\u00e9\nz\x00\xff\u00e9\n")
}

// copies returns n vectors with the same characters.
func copies(n int, s string) []api.Vec {
	return slices.Repeat([]api.Vec{of(s)}, n)
}

// P6.1, P6.2: a percent sign before each byte, without and with digits in between; also after other percent signs.
func TestEachByte(t *testing.T) {
	for c := range 256 {
		b := string([]byte{byte(c)})
		for _, start := range []string{"%", "%%", "%%%", "a%", "%5", "%0", "%12", "%012", "%000", "%1234", "%0000", "%d%", "%%5", "%5%", "%-", "%+", "% ", "%.", "%d5"} {
			for _, end := range []string{"", "d", "5d", "%", "%%", "\x80"} {
				f := start + b + end
				n, e := wantCount(f)
				counts(t, f, n, e)
				if e != api.OK {
					refuses(t, f, copies(n, "1x"), 3, e)
					continue
				}
				args := copies(n, "s01000010")
				formats(t, f, args, 3, wantFormat(f, args, 3))
			}
		}
	}
}

// P6.1, P6.2: every short text over the characters of conversions.
func TestShortTexts(t *testing.T) {
	alphabet := strings.Split("%05dTxcq", "")
	level := []string{""}
	for range 5 {
		var next []string
		for _, s := range level {
			for _, c := range alphabet {
				next = append(next, s+c)
			}
		}
		level = next
		for _, f := range level {
			n, e := wantCount(f)
			counts(t, f, n, e)
			if e != api.OK {
				refuses(t, f, nil, 3, e)
				continue
			}
			args := list("01000010", "s11111110", "x1", "0")[:n]
			formats(t, f, args, 3, wantFormat(f, args, 3))
		}
	}
}

// P6.2: a result consists of the conversions' results and nothing else, and has no state of earlier calls.
func TestRepeated(t *testing.T) {
	args := list("1x", "s10", bytesText("ab"), "00001010")
	for range 3 {
		formats(t, "%b%d%s%h", args, 5, "1x-2ab0a")
		refuses(t, "%b%d%s%h%q", args, 5, api.ErrForm)
		counts(t, "%b%d%s%h", 4, api.OK)
	}
}

// P6.2: neither the arguments nor the memory behind them change, and a result does not depend on them later.
func TestArguments(t *testing.T) {
	for _, v := range append(every(2), wide()[:600]...) {
		for _, f := range []string{"%b%o%d%h%x%c%s", "%5b%5o%5d%5h%5x%5c%5s", "%b%o%d%h%x%c%s%q", "%b", "%b%b%b%b%b%b%b%b%b"} {
			bits := append(slices.Clone(v.Bits), 7, api.BX, 9)
			bitsBefore := slices.Clone(bits)
			args := append(slices.Repeat([]api.Vec{{Bits: bits[:len(v.Bits)], Signed: v.Signed}}, 7), api.Vec{}, api.Vec{Signed: true})
			argsBefore := slices.Clone(args)
			got, _ := display.Format(f, args[:7], 1)
			kept := strings.Clone(got)
			if !slices.Equal(bits, bitsBefore) || !slices.EqualFunc(args, argsBefore, vec.Same) {
				t.Fatalf("Format of %s changed its arguments of %s, or the memory behind them", f, chars(v))
			}
			for i := range bits {
				bits[i] = api.BZ
			}
			if got != kept {
				t.Fatalf("the result of %s changed with its arguments of %s", f, chars(v))
			}
		}
	}
}
