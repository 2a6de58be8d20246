package vec_test

import (
	"math"
	"strings"
	"testing"

	"netlab/api"
	"netlab/vec"
)

// P4.2: Resize extends by the sign, or shortens; the sign remains.
func TestResize(t *testing.T) {
	for _, a := range all() {
		for _, width := range []int{1, 2, 3, 4, 5, 31, 32, 63, 64, 65, 127, 128} {
			b, e := vec.Resize(a, width)
			makes(t, "Resize", b, e, written(extended(digits(a), a.Signed, width), a.Signed), text(a), width)
		}
	}
	for _, a := range append(every(1), invalid()...) {
		for _, width := range badWidths {
			b, e := vec.Resize(a, width)
			fails(t, "Resize", b, e, api.ErrWidth, text(a), width)
		}
	}
}

// P4.2: Concat joins the bits of all vectors, the first one being the most significant; the result is unsigned.
func TestConcat(t *testing.T) {
	for _, a := range all() {
		b, e := vec.Concat(a)
		makes(t, "Concat", b, e, digits(a), text(a))
	}
	pairs(func(a, b api.Vec) {
		c, e := vec.Concat(a, b)
		if len(a.Bits)+len(b.Bits) > 128 {
			fails(t, "Concat", c, e, api.ErrWidth, text(a), text(b))
			return
		}
		makes(t, "Concat", c, e, digits(a)+digits(b), text(a), text(b))
	})
	for _, a := range every(2) {
		for _, b := range every(2) {
			c, e := vec.Concat(a, of("s1z0"), b)
			makes(t, "Concat", c, e, digits(a)+"1z0"+digits(b), text(a), text(b))
		}
	}
}

// P4.2: Concat of no vectors, and of too many bits.
func TestConcatErrors(t *testing.T) {
	a, e := vec.Concat()
	fails(t, "Concat", a, e, api.ErrShort)
	a, e = vec.Concat([]api.Vec{}...)
	fails(t, "Concat", a, e, api.ErrShort)
	for _, n := range []int{1, 2, 127, 128, 129, 130, 256, 100000} {
		l := make([]api.Vec, n) // invalid vectors, which count as a single x
		a, e = vec.Concat(l...)
		if n > 128 {
			fails(t, "Concat", a, e, api.ErrWidth, n)
		} else {
			makes(t, "Concat", a, e, strings.Repeat("x", n), n)
		}
	}
	long := of(strings.Repeat("10", 64))
	a, e = vec.Concat(long)
	makes(t, "Concat", a, e, strings.Repeat("10", 64))
	for _, l := range [][]api.Vec{{long, of("1")}, {of("1"), long}, {long, long}, {{}, long}, {long, {}}} {
		a, e = vec.Concat(l...)
		fails(t, "Concat", a, e, api.ErrWidth, texts(l))
	}
}

// P4.2: Repeat returns the concatenation of n copies.
func TestRepeat(t *testing.T) {
	for _, a := range all() {
		for _, n := range []int{1, 2, 3, 4, 25, 26, 31, 32, 33, 42, 43, 63, 64, 65, 127, 128, 129, 1 << 31, 1 << 32, 1 << 57, 1 << 62, math.MaxInt} {
			b, e := vec.Repeat(a, n)
			if n > 128/len(a.Bits) {
				fails(t, "Repeat", b, e, api.ErrWidth, text(a), n)
				continue
			}
			makes(t, "Repeat", b, e, strings.Repeat(digits(a), n), text(a), n)
		}
	}
	for _, a := range append(every(1), invalid()...) {
		for _, n := range []int{0, -1, -128, math.MinInt} {
			b, e := vec.Repeat(a, n)
			fails(t, "Repeat", b, e, api.ErrArg, text(a), n)
		}
	}
}

// spans holds bounds of slices, in and outside of the vectors, of at most MaxWidth bits.
func spans() [][2]int {
	var l [][2]int
	for lo := -4; lo <= 6; lo++ {
		for hi := lo; hi <= 7; hi++ {
			l = append(l, [2]int{hi, lo})
		}
	}
	l = append(l, [2]int{127, 0}, [2]int{126, -1}, [2]int{0, -127}, [2]int{128, 1}, [2]int{254, 127}, [2]int{300, 200})
	l = append(l, [2]int{64, 63}, [2]int{100, 30}, [2]int{-1, -128}, [2]int{130, 120})
	l = append(l, [2]int{math.MaxInt, math.MaxInt}, [2]int{math.MaxInt, math.MaxInt - 127}, [2]int{math.MinInt, math.MinInt}, [2]int{math.MinInt + 127, math.MinInt})
	return l
}

// badSpans holds bounds with the errors that they cause.
var badSpans = []struct {
	hi, lo int
	want   api.Errno
}{
	{-1, 0, api.ErrArg}, {0, 1, api.ErrArg}, {3, 200, api.ErrArg}, {0, 128, api.ErrArg},
	{math.MinInt, math.MaxInt, api.ErrArg}, {math.MinInt, 0, api.ErrArg}, {math.MinInt, math.MinInt + 1, api.ErrArg}, {math.MaxInt - 1, math.MaxInt, api.ErrArg}, {-1, math.MaxInt, api.ErrArg},
	{128, 0, api.ErrWidth}, {127, -1, api.ErrWidth}, {0, -128, api.ErrWidth}, {1000, 0, api.ErrWidth}, {1 << 32, 0, api.ErrWidth},
	{math.MaxInt, math.MinInt, api.ErrWidth}, {math.MaxInt, -1, api.ErrWidth}, {math.MaxInt, 0, api.ErrWidth}, {0, math.MinInt, api.ErrWidth}, {1, math.MinInt, api.ErrWidth}, {-1, math.MinInt, api.ErrWidth}, {math.MaxInt, math.MaxInt - 128, api.ErrWidth},
}

// bitAt returns the digit of bit i, or x if the vector does not have it.
func bitAt(s string, i int) string {
	if i < 0 || i >= len(s) {
		return "x"
	}
	return s[len(s)-1-i : len(s)-i]
}

// P4.2: Slice returns the bits hi to lo, unsigned, with x where there are none.
func TestSlice(t *testing.T) {
	for _, a := range all() {
		for _, x := range spans() {
			hi, lo := x[0], x[1]
			want := ""
			for d := range hi - lo + 1 {
				want = bitAt(digits(a), lo+d) + want
			}
			b, e := vec.Slice(a, hi, lo)
			makes(t, "Slice", b, e, want, text(a), hi, lo)
		}
	}
}

// P4.2: Put replaces the bits hi to lo, after resizing, and ignores bits outside of the vector.
func TestPut(t *testing.T) {
	parts := []api.Vec{of("0"), of("s1"), of("z"), of("sz0"), of("s10"), of("10"), of("x1z0"), of("s1x1z0"), of("s0101"), of("1" + strings.Repeat("01", 40)), of("s" + strings.Repeat("10z1", 32))}
	for _, a := range append(every(2), wide()...) {
		for _, x := range spans() {
			hi, lo := x[0], x[1]
			for _, b := range parts {
				part, want := extended(digits(b), b.Signed, hi-lo+1), []byte(digits(a))
				for i := range want {
					if lo <= i && i <= hi {
						want[len(want)-1-i] = part[hi-i]
					}
				}
				c, e := vec.Put(a, hi, lo, b)
				makes(t, "Put", c, e, written(string(want), a.Signed), a, hi, lo, b)
			}
		}
	}
}

// P4.2: the bounds are checked in order, also for invalid vectors.
func TestSpanErrors(t *testing.T) {
	for _, a := range append(every(1), append(wide()[:3], invalid()...)...) {
		for _, x := range badSpans {
			b, e := vec.Slice(a, x.hi, x.lo)
			fails(t, "Slice", b, e, x.want, text(a), x.hi, x.lo)
			b, e = vec.Put(a, x.hi, x.lo, of("s1"))
			fails(t, "Put", b, e, x.want, text(a), x.hi, x.lo)
			b, e = vec.Put(of("s1"), x.hi, x.lo, a)
			fails(t, "Put", b, e, x.want, text(a), x.hi, x.lo)
		}
	}
}

// P4.10: slicing a concatenation returns its parts.
func TestSliceOfConcat(t *testing.T) {
	pairs(func(a, b api.Vec) {
		c, e := vec.Concat(a, b)
		if e != api.OK {
			return
		}
		low, e := vec.Slice(c, len(b.Bits)-1, 0)
		makes(t, "low part", low, e, digits(b), text(a), text(b))
		high, e := vec.Slice(c, len(c.Bits)-1, len(b.Bits))
		makes(t, "high part", high, e, digits(a), text(a), text(b))
	})
}

// P4.10: putting a slice back changes nothing.
func TestPutSlice(t *testing.T) {
	for _, a := range all() {
		for _, x := range spans() {
			part, _ := vec.Slice(a, x[0], x[1])
			b, e := vec.Put(a, x[0], x[1], part)
			makes(t, "Put of Slice", b, e, text(a), x)
		}
	}
}

// P4.10: resizing to a greater width and back returns the vector, and extending keeps the value.
func TestResizeBack(t *testing.T) {
	for _, a := range all() {
		for width := len(a.Bits); width <= 128; width++ {
			b, _ := vec.Resize(a, width)
			c, e := vec.Resize(b, len(a.Bits))
			makes(t, "Resize back", c, e, text(a), width)
			n, fits := vec.Int(a)
			m, fit := vec.Int(b)
			holds(t, "extending keeps the value", n == m && fits == fit, a, b)
			if known(digits(a)) {
				holds(t, "extending keeps every value", value(digits(a), a.Signed).Cmp(value(digits(b), b.Signed)) == 0, a, b)
			}
		}
	}
}
