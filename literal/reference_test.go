package literal_test

import (
	"fmt"
	"math/big"
	"regexp"
	"strconv"
	"strings"
	"testing"

	"netlab/api"
	"netlab/literal"
)

// of returns the vector with the given characters, the most significant bit first; s in front makes it signed.
func of(s string) api.Vec {
	signed := strings.HasPrefix(s, "s")
	s = strings.TrimPrefix(s, "s")
	bits := make([]api.Bit, len(s))
	for i := range s {
		bits[len(s)-1-i] = api.Bit(strings.IndexByte("01xz", s[i]))
	}
	return api.Vec{Bits: bits, Signed: signed}
}

// text returns the characters from which of makes a.
func text(a api.Vec) string {
	if a.Signed {
		return "s" + chars(a)
	}
	return chars(a)
}

// chars returns the characters of the bits of a, the most significant one first.
func chars(a api.Vec) string {
	s := make([]byte, len(a.Bits))
	for i, b := range a.Bits {
		s[len(s)-1-i] = '!'
		if b <= api.BZ {
			s[len(s)-1-i] = "01xz"[b]
		}
	}
	return string(s)
}

// power2 returns 2^n.
func power2(n int) *big.Int { return new(big.Int).Lsh(big.NewInt(1), uint(n)) }

// binary returns the bits of n modulo 2^width.
func binary(n *big.Int, width int) string {
	s := new(big.Int).Mod(n, power2(width)).Text(2) // Mod is never negative
	return strings.Repeat("0", width-min(width, len(s))) + s
}

// parsed is what Parse returns, with the vector as a text.
type parsed struct {
	vec  string
	next int
	e    api.Errno
}

// parse calls Parse.
func parse(s string, at int) parsed {
	v, next, e := literal.Parse(s, at)
	return parsed{text(v), next, e}
}

var (
	numberStart = regexp.MustCompile(`^[A-Za-z0-9_]*`)
	bodyStart   = regexp.MustCompile(`^[A-Za-z0-9_?]*`)
	number      = regexp.MustCompile(`^[0-9][0-9_]*$`)
	body        = regexp.MustCompile(`^([sS]?)(?:([bB])([01xXzZ?][01xXzZ?_]*)|([oO])([0-7xXzZ?][0-7xXzZ?_]*)|([dD])([0-9][0-9_]*|[xXzZ?]_*)|([hH])([0-9a-fA-FxXzZ?][0-9a-fA-FxXzZ?_]*))$`)
)

// plain removes the underscores.
func plain(s string) string { return strings.ReplaceAll(s, "_", "") }

// integer returns the value of decimal digits and underscores.
func integer(s string) *big.Int {
	n, _ := new(big.Int).SetString(plain(s), 10)
	return n
}

// wantParse returns what Parse must return, by its definition.
func wantParse(s string, at int) parsed {
	switch {
	case len(s) > 65536:
		return parsed{e: api.ErrLong}
	case at < 0 || at > len(s):
		return parsed{e: api.ErrArg}
	case at == len(s):
		return parsed{e: api.ErrShort}
	}
	first := numberStart.FindString(s[at:])
	after := s[at+len(first):]
	based := strings.HasPrefix(after, "'")
	switch {
	case !number.MatchString(first) && !(first == "" && based):
		return parsed{e: api.ErrForm}
	case !based && integer(first).Cmp(big.NewInt(2147483647)) > 0:
		return parsed{e: api.ErrLong}
	case !based:
		return parsed{"s" + binary(integer(first), 32), at + len(first), api.OK}
	}
	size := big.NewInt(32)
	if first != "" {
		size = integer(first)
	}
	second := bodyStart.FindString(after[1:])
	switch {
	case size.Sign() == 0 || size.Cmp(big.NewInt(128)) > 0:
		return parsed{e: api.ErrWidth}
	case after == "'":
		return parsed{e: api.ErrShort}
	case !body.MatchString(second):
		return parsed{e: api.ErrForm}
	}
	parts := strings.Join(body.FindStringSubmatch(second)[2:], "") // a base letter and digits
	digits := plain(parts[1:])
	if len(digits) > 256 {
		return parsed{e: api.ErrLong}
	}
	vec := denoted(parts[:1], digits, int(size.Int64()))
	if strings.ContainsAny(second[:1], "sS") {
		vec = "s" + vec
	}
	return parsed{vec, at + len(first) + 1 + len(second), api.OK}
}

// denoted returns the bits that digits without underscores denote.
func denoted(base, digits string, width int) string {
	digits = strings.NewReplacer("X", "x", "Z", "z", "?", "z").Replace(digits)
	bits := ""
	switch n := map[string]int{"b": 1, "o": 3, "h": 4}[strings.ToLower(base)]; {
	case n > 0:
		for _, c := range digits {
			if v, err := strconv.ParseUint(string(c), 16, 8); err == nil {
				bits += fmt.Sprintf("%0*b", n, v)
			} else {
				bits += strings.Repeat(string(c), n)
			}
		}
	case digits == "x" || digits == "z":
		return strings.Repeat(digits, width)
	default:
		return binary(integer(digits), width)
	}
	fill := "0"
	if bits[0] == 'x' || bits[0] == 'z' {
		fill = bits[:1]
	}
	bits = strings.Repeat(fill, width) + bits
	return bits[len(bits)-width:]
}

// bases holds the base letters of Format and Digits.
const bases = "bodh"

// wantDigits returns what Digits must return, by its definition.
func wantDigits(v api.Vec, base byte) string {
	s := chars(v)
	n := map[byte]int{'b': 1, 'o': 3, 'h': 4}[base]
	if n == 0 {
		if strings.ContainsAny(s, "xz") {
			return unknownDigit(s)
		}
		value, _ := new(big.Int).SetString(s, 2)
		if v.Signed && s[0] == '1' {
			value.Sub(value, power2(len(s)))
		}
		return value.String()
	}
	digits := ""
	for end := len(s); end > 0; end -= n {
		group := s[max(0, end-n):end]
		if value, err := strconv.ParseUint(group, 2, 8); err == nil {
			digits = strconv.FormatUint(value, 16) + digits
		} else {
			digits = unknownDigit(group) + digits
		}
	}
	return digits
}

// unknownDigit returns the character of a group that is not known.
func unknownDigit(group string) string {
	switch {
	case strings.Trim(group, "x") == "":
		return "x"
	case strings.Trim(group, "z") == "":
		return "z"
	case strings.Contains(group, "x"):
		return "X"
	}
	return "Z"
}

// every returns all vectors of 1 to most bits.
func every(most int) []api.Vec {
	var l []api.Vec
	level := []string{""}
	for range most {
		var next []string
		for _, s := range level {
			for _, c := range []string{"0", "1", "x", "z"} {
				next = append(next, s+c)
			}
		}
		for _, s := range next {
			l = append(l, of(s), of("s"+s))
		}
		level = next
	}
	return l
}

// numbers yields the same sequence of numbers in every run.
func numbers() func() uint64 {
	state := uint64(1)
	return func() uint64 {
		state = state*6364136223846793005 + 1442695040888963407
		return state>>33 ^ state>>40
	}
}

// random returns a text of that many of the given characters.
func random(next func() uint64, from string, n int) string {
	s := make([]byte, n)
	for i := range s {
		s[i] = from[next()%uint64(len(from))]
	}
	return string(s)
}

// wide returns vectors of every width: known ones, x and z only, and known ones with x and z in some places.
func wide() []api.Vec {
	next := numbers()
	var l []api.Vec
	for width := 1; width <= 128; width++ {
		all := func(c string) string { return strings.Repeat(c, width) }
		some := []string{all("0"), all("1"), all("x"), all("z"), "1" + all("0")[1:], "0" + all("1")[1:], all("0")[1:] + "1", all("1")[1:] + "0"}
		some = append(some, binary(big.NewInt(10), width), binary(big.NewInt(-10), width), binary(big.NewInt(99999), width), binary(big.NewInt(1000000000000000000), width))
		for range 3 {
			some = append(some, random(next, "01", width), random(next, "01xz", width), random(next, "xz", width))
			at := int(next() % uint64(width))
			some = append(some, all("1")[:at]+"x"+all("0")[at+1:], all("0")[:at]+"z"+all("1")[at+1:], all("z")[:at]+"0"+all("z")[at+1:], all("x")[:at]+all("1")[at:], all("z")[:at]+all("0")[at:])
		}
		some = append(some, groupwise(next, width, 3), groupwise(next, width, 4))
		for _, s := range some {
			l = append(l, of(s), of("s"+s))
		}
	}
	return l
}

// groupwise returns bits whose groups of n are each known, x or z.
func groupwise(next func() uint64, width, n int) string {
	s := ""
	for len(s) < width {
		s = []string{random(next, "01", n), strings.Repeat("x", n), strings.Repeat("z", n)}[next()%3] + s
	}
	return s[len(s)-width:]
}

// vectors returns the small and the wide vectors.
func vectors() []api.Vec { return append(every(5), wide()...) }

// same fails the test unless got is want.
func same(t *testing.T, what string, got, want parsed) {
	t.Helper()
	if got != want {
		t.Fatalf("%s: got %s, offset %d and error %d, want %s, offset %d and error %d", what, got.vec, got.next, got.e, want.vec, want.next, want.e)
	}
}
