package display_test

import (
	"fmt"
	"math/big"
	"regexp"
	"strconv"
	"strings"
	"testing"

	"netlab/api"
	"netlab/display"
	"netlab/literal"
)

// of returns the vector with the given characters, the most significant bit first; s in front makes it signed.
func of(s string) api.Vec {
	chars, signed := strings.CutPrefix(s, "s")
	v := api.Vec{Signed: signed}
	for _, c := range chars {
		v.Bits = append([]api.Bit{api.Bit(strings.IndexRune("01xz", c))}, v.Bits...)
	}
	return v
}

// list returns the vectors with the given characters.
func list(l ...string) []api.Vec {
	var args []api.Vec
	for _, s := range l {
		args = append(args, of(s))
	}
	return args
}

// chars returns the characters of the bits of v, the most significant one first.
func chars(v api.Vec) string {
	s := ""
	for _, b := range v.Bits {
		s = "01xz"[b:b+1] + s
	}
	return s
}

// bytesText returns the characters of the vector of the bytes of s.
func bytesText(s string) string {
	bits := ""
	for i := range len(s) {
		bits += fmt.Sprintf("%08b", s[i])
	}
	return bits
}

// value returns the value of a known vector.
func value(v api.Vec) *big.Int {
	n, _ := new(big.Int).SetString(chars(v), 2)
	if v.Signed && n.Bit(len(v.Bits)-1) == 1 {
		n.Sub(n, power2(len(v.Bits)))
	}
	return n
}

// power2 returns 2^n.
func power2(n int) *big.Int { return new(big.Int).Lsh(big.NewInt(1), uint(n)) }

// every returns all vectors of 1 to most bits.
func every(most int) []api.Vec {
	var l []api.Vec
	level := []string{""}
	for range most {
		var next []string
		for _, s := range level {
			next = append(next, s+"0", s+"1", s+"x", s+"z")
		}
		for _, s := range next {
			l = append(l, of(s), of("s"+s))
		}
		level = next
	}
	return l
}

// wide returns vectors of every width: the least and the greatest ones, small values, x and z only, and mixtures.
func wide() []api.Vec {
	state := uint64(1)
	random := func(from string, n int) string {
		s := ""
		for range n {
			state = state*6364136223846793005 + 1442695040888963407 // the same sequence in every run
			s += string(from[(state>>33)%uint64(len(from))])
		}
		return s
	}
	var l []api.Vec
	for width := 1; width <= 128; width++ {
		all := func(c string) string { return strings.Repeat(c, width) }
		for _, s := range []string{
			all("0"), all("1"), all("x"), all("z"), "1" + all("0")[1:], "0" + all("1")[1:], all("0")[1:] + "1", all("0")[1:] + "x", "z" + all("1")[1:],
			random("01", width), random("0001", width), random("01xz", width), random("000x", width), random("1z", width), all("0")[width/2:] + random("01", width/2), all("0")[width/3:] + random("1x", width/3),
		} {
			l = append(l, of(s), of("s"+s))
		}
	}
	return l
}

// conversions holds the letters of the conversions that use an argument.
const conversions = "bodhxcsBODHXCS"

// isConversion matches a conversion at the start of a text.
var isConversion = regexp.MustCompile(`^%(%|([0-9]{0,3})([` + conversions + `tT]))`)

// wantCount returns what Count must return, by its definition.
func wantCount(f string) (int, api.Errno) {
	if len(f) > 65536 {
		return 0, api.ErrLong
	}
	n := 0
	for f != "" {
		length := 1
		if f[0] == '%' {
			m := isConversion.FindStringSubmatch(f)
			if m == nil {
				return 0, api.ErrForm
			}
			length = len(m[0])
			if strings.ContainsAny(m[3], conversions) {
				n++
			}
		}
		f = f[length:]
	}
	return n, api.OK
}

// wantFormat returns what Format must return for a valid format string with as many valid arguments as it uses.
func wantFormat(f string, args []api.Vec, time int64) string {
	out := ""
	for f != "" {
		m := isConversion.FindStringSubmatch(f)
		switch {
		case m == nil:
			out += f[:1]
			f = f[1:]
			continue
		case m[1] == "%":
			out += "%"
		case strings.EqualFold(m[3], "t"):
			out += aligned(strconv.FormatInt(time, 10), " ", m[2], 20)
		default:
			out += replaced(m[2], strings.ToLower(m[3]), args[0])
			args = args[1:]
		}
		f = f[len(m[0]):]
	}
	return out
}

// aligned adds copies of fill up to the given minimum width, or the other one if none is given.
func aligned(s, fill, given string, other int) string {
	if given != "" {
		other, _ = strconv.Atoi(given)
	}
	return strings.Repeat(fill, max(0, other-len(s))) + s
}

// replaced returns what a conversion yields for its argument.
func replaced(given, letter string, v api.Vec) string {
	base := strings.Replace(letter, "x", "h", 1)
	digits, _ := literal.Digits(v, base[0])
	switch letter {
	case "d":
		most := new(big.Int).Sub(power2(len(v.Bits)), big.NewInt(1))
		if v.Signed {
			most = new(big.Int).Neg(power2(len(v.Bits) - 1))
		}
		return aligned(digits, " ", given, len(most.String()))
	case "c":
		s := bytesOf(v)
		return s[len(s)-1:]
	case "s":
		return aligned(strings.TrimLeft(bytesOf(v), "\x00"), " ", given, 0)
	}
	for given != "" && len(digits) > 1 && digits[0] == '0' {
		digits = digits[1:]
	}
	return aligned(digits, "0", given, 0)
}

// bytesOf returns the bytes of the bits of v, the most significant byte first.
func bytesOf(v api.Vec) string {
	bits := strings.NewReplacer("x", "0", "z", "0").Replace(chars(v))
	for len(bits)%8 != 0 {
		bits = "0" + bits
	}
	s := ""
	for ; bits != ""; bits = bits[8:] {
		n, _ := strconv.ParseUint(bits[:8], 2, 8)
		s += string([]byte{byte(n)})
	}
	return s
}

// written returns a text of arguments for messages.
func written(args []api.Vec) string {
	s := fmt.Sprintf("%d arguments:", len(args))
	for _, v := range args[:min(4, len(args))] {
		s += fmt.Sprintf(" %v signed %t;", v.Bits, v.Signed)
	}
	return s
}

// formats fails the test unless Format returns that text without an error.
func formats(t *testing.T, f string, args []api.Vec, time int64, want string) {
	t.Helper()
	if got, e := display.Format(f, args, time); got != want || e != api.OK {
		t.Fatalf("Format of %.80q with %s time %d: got %.200q and error %d, want %.200q", f, written(args), time, got, e, want)
	}
}

// refuses fails the test unless Format returns that error and no text.
func refuses(t *testing.T, f string, args []api.Vec, time int64, want api.Errno) {
	t.Helper()
	if got, e := display.Format(f, args, time); got != "" || e != want {
		t.Fatalf("Format of %.80q with %s time %d: got %.200q and error %d, want error %d", f, written(args), time, got, e, want)
	}
}

// counts fails the test unless Count returns that number and that error.
func counts(t *testing.T, f string, want int, wantErr api.Errno) {
	t.Helper()
	if got, e := display.Count(f); got != want || e != wantErr {
		t.Fatalf("Count of %.80q: got %d and error %d, want %d and error %d", f, got, e, want, wantErr)
	}
}
