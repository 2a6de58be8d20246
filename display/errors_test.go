package display_test

import (
	"math"
	"strings"
	"testing"

	"netlab/api"
)

// malformed holds format strings with a percent sign that does not begin a conversion.
var malformed = []string{
	"%", "%%%", "a%", "%d%", "%5", "%0", "%12", "%123", "%t%00", "%1234", "%1234d", "%0000d", "%0123d", "%0005t", "%9999999999999999999d", "%5%", "%0%", "%%5%", "%q", "%Q", "%5q", "%%%q", "%a", "%e", "%f", "%g", "%i", "%l", "%m", "%p", "%u", "%v", "%w", "%y", "%z",
	"% d", "%-5d", "%+d", "%.d", "%5.2d", "%1 d", "%#x", "%\n", "%\x00", "%\xff", "%\u00e9", "%\u212a", "%\u017f", "%1_d", "%_", "%5d%6", "%d %q %d", "%\"d", "%\\d", "%*d", "%'d", "%4294967297d",
}

// badVectors returns invalid vectors, and the error of each of them.
func badVectors() map[api.Errno][]api.Vec {
	filled := func(n int, b api.Bit) []api.Bit {
		bits := make([]api.Bit, n)
		for i := range bits {
			bits[i] = b
		}
		return bits
	}
	return map[api.Errno][]api.Vec{
		api.ErrShort: {{}, {Signed: true}, {Bits: make([]api.Bit, 0, 8)}},
		api.ErrLong:  {{Bits: filled(129, api.B0)}, {Bits: filled(200, 4), Signed: true}, {Bits: filled(70000, api.B1)}},
		api.ErrArg:   {{Bits: []api.Bit{4}}, {Bits: []api.Bit{255, api.B1}, Signed: true}, {Bits: append(filled(127, api.BX), 4)}},
	}
}

// P6.1, P6.2: a percent sign that does not begin a conversion.
func TestMalformed(t *testing.T) {
	for _, f := range malformed {
		for _, s := range []string{f, "text " + f, "%%" + f, "%t" + f, strings.Repeat("\u00e9", 1000) + f} {
			counts(t, s, 0, api.ErrForm)
			for n := range 4 {
				refuses(t, s, copies(n, "1"), 0, api.ErrForm)
			}
		}
	}
}

// P6.1, P6.2: texts of MaxSource bytes and above; the length comes before the form.
func TestLongTexts(t *testing.T) {
	for _, unit := range []string{"a", "%%", "%d", "%t", "%012b ", "%", "%q"} {
		for _, length := range []int{65535, 65536, 65537, 65538, 70000, 140000} {
			f := strings.Repeat(unit, length)[:length]
			n, e := wantCount(f)
			counts(t, f, n, e)
			if length > 65536 {
				counts(t, f, 0, api.ErrLong)
				refuses(t, f, nil, 0, api.ErrLong)
				refuses(t, f, list("1"), 0, api.ErrLong)
			}
		}
	}
	formats(t, strings.Repeat("a", 65536), nil, 0, strings.Repeat("a", 65536))
	formats(t, strings.Repeat("%%", 32768), nil, 0, strings.Repeat("%", 32768))
	formats(t, "%0d"+strings.Repeat("a", 65533), list("1"), 0, "1"+strings.Repeat("a", 65533))
}

// P6.2: times out of range; this error comes first.
func TestBadTimes(t *testing.T) {
	for _, time := range []int64{math.MinInt64, math.MinInt64 + 1, -1 << 32, -1, 1000000000001, 1 << 62, math.MaxInt64} {
		for _, f := range []string{"", "x", "%t", "%d", "%q", strings.Repeat("a", 65537)} {
			refuses(t, f, nil, time, api.ErrArg)
			refuses(t, f, list("1", "x"), time, api.ErrArg)
			refuses(t, f, []api.Vec{{}}, time, api.ErrArg)
		}
	}
	for _, time := range []int64{0, 1, 999999999999, 1000000000000} {
		formats(t, "%b", list("x"), time, "x")
	}
}

// P6.2: an invalid argument has the error of vec.Check, before the errors of the format string and of the number of arguments.
func TestBadArguments(t *testing.T) {
	for want, l := range badVectors() {
		for _, bad := range l {
			for _, f := range []string{"", "x", "%d", "%d%d", "%d%d%d", "%d%d%d%d", "%t", "%q", "%", strings.Repeat("a", 65537), "%999b%999b%999b" + strings.Repeat("a", 65500)} {
				refuses(t, f, []api.Vec{bad}, 0, want)
				refuses(t, f, []api.Vec{bad, of("1")}, 0, want)
				refuses(t, f, []api.Vec{of("1"), of("x"), bad}, 0, want)
				for _, others := range badVectors() {
					refuses(t, f, append([]api.Vec{of("1"), bad}, others...), 0, want)
				}
			}
		}
	}
}

// P6.2: too few and too many arguments, after the errors of the format string and before that of the result's length.
func TestNumberOfArguments(t *testing.T) {
	for _, f := range []string{"", "x", "%%", "%t", "%b", "%d%%", "%c%s", "%h%t%x%o", "%999b%999o%0d" + strings.Repeat("a", 65500), strings.Repeat("%999d", 500)} {
		used, e := wantCount(f)
		if e != api.OK {
			t.Fatalf("Count of %q: the reference returns error %d", f, e)
		}
		for n := range used {
			refuses(t, f, copies(n, "1"), 0, api.ErrShort)
		}
		for n := used + 1; n < used+4; n++ {
			refuses(t, f, copies(n, "1"), 0, api.ErrMore)
		}
		refuses(t, f+"%q", copies(used+1, "1"), 0, api.ErrForm)
		refuses(t, f+"%q", copies(max(0, used-1), "1"), 0, api.ErrForm)
	}
}

// P6.2: results of MaxLog bytes and above.
func TestLongResults(t *testing.T) {
	for _, x := range []struct {
		f    string // which yields 1000 bytes with one argument
		args int
		arg  string
	}{
		{"%999b.", 1, "1"}, {"%999o.", 1, "x"}, {"%999d.", 1, "s1"}, {"%999h.", 1, "0"}, {"%999X.", 1, strings.Repeat("1", 128)}, {"%999s.", 1, "0"}, {"%999t.", 0, ""}, {"%999s.", 1, bytesText("text")},
	} {
		for _, length := range []int{65535, 65536, 65537, 65999, 66000} {
			f := strings.Repeat(x.f, length/1000) + strings.Repeat("a", length%1000)
			args := copies(x.args*(length/1000), x.arg)
			if length > 65536 {
				refuses(t, f, args, 0, api.ErrLong)
				continue
			}
			want := wantFormat(f, args, 0)
			if len(want) != length {
				t.Fatalf("%.20q: the reference has %d bytes, want %d", f, len(want), length)
			}
			formats(t, f, args, 0, want)
		}
	}
	refuses(t, strings.Repeat("%999t", 13107), nil, 0, api.ErrLong)
	refuses(t, strings.Repeat("%b", 32768), copies(32768, strings.Repeat("x", 128)), 0, api.ErrLong)
	refuses(t, strings.Repeat("%T", 3277), nil, 0, api.ErrLong)
	formats(t, strings.Repeat("%b", 512), copies(512, strings.Repeat("x", 128)), 0, strings.Repeat("x", 65536))
	refuses(t, strings.Repeat("%b", 512)+"%%", copies(512, strings.Repeat("x", 128)), 0, api.ErrLong)
	refuses(t, "a"+strings.Repeat("%b", 512), copies(512, strings.Repeat("x", 128)), 0, api.ErrLong)
	formats(t, strings.Repeat("%b", 512)+"%s%0s", append(copies(512, strings.Repeat("z", 128)), list("0", "x")...), 0, strings.Repeat("z", 65536))
}
