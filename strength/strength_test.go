package strength_test

import (
	"slices"
	"strings"
	"testing"

	"netlab/api"
	"netlab/bit"
	"netlab/strength"
)

// interval shortens the name in these tests.
type interval = strength.Interval

func to(lo, hi int) interval { return interval{Lo: int8(lo), Hi: int8(hi)} }

// valid returns all valid intervals.
func valid() []interval {
	var l []interval
	for lo := -7; lo <= 7; lo++ {
		for hi := lo; hi <= 7; hi++ {
			l = append(l, to(lo, hi))
		}
	}
	return l
}

// every returns all values of an interval, valid or not.
func every() []interval {
	var l []interval
	for lo := -128; lo <= 127; lo++ {
		for hi := -128; hi <= 127; hi++ {
			l = append(l, to(lo, hi))
		}
	}
	return l
}

// wild returns intervals of which most are not valid.
func wild() []interval {
	bounds := []int{-128, -127, -8, -7, -6, -3, -1, 0, 1, 3, 6, 7, 8, 126, 127}
	var l []interval
	for _, lo := range bounds {
		for _, hi := range bounds {
			l = append(l, to(lo, hi))
		}
	}
	return l
}

// ends returns the bounds as which the functions see an interval.
func ends(a interval) (lo, hi int) {
	lo, hi = nearest(int(a.Lo)), nearest(int(a.Hi))
	if lo > hi {
		return hi, lo
	}
	return lo, hi
}

// nearest returns the number in -7 to 7 that is nearest to n.
func nearest(n int) int {
	for n < -7 {
		n++
	}
	for n > 7 {
		n--
	}
	return n
}

// within reports whether all levels of the valid interval a lie in the valid interval b.
func within(a, b interval) bool { return b.Lo <= a.Lo && a.Hi <= b.Hi }

// bits holds the four states and values above BZ, which count as x.
var bits = []api.Bit{api.B0, api.B1, api.BX, api.BZ, 4, 5, 127, 128, 255}

// as returns the state as which the functions see a value.
func as(b api.Bit) api.Bit {
	if b > 3 {
		return api.BX
	}
	return b
}

// stems are the names of the strengths without their digit.
var stems = []string{"highz", "small", "medium", "weak", "large", "pull", "strong", "supply"}

// P2.1: an interval is valid if -7 <= Lo <= Hi <= 7.
func TestValid(t *testing.T) {
	for _, a := range every() {
		want := -7 <= a.Lo && a.Lo <= a.Hi && a.Hi <= 7
		if got := strength.Valid(a); got != want {
			t.Fatalf("Valid(%d) returned %t, want %t", a, got, want)
		}
	}
}

// P2.1: bounds are limited first and exchanged then.
func TestNorm(t *testing.T) {
	for _, x := range []struct{ a, want interval }{
		{to(-3, 5), to(-3, 5)},
		{to(-7, 7), to(-7, 7)},
		{to(-8, 8), to(-7, 7)},
		{to(-128, 127), to(-7, 7)},
		{to(127, -128), to(-7, 7)},
		{to(5, -3), to(-3, 5)},
		{to(9, 8), to(7, 7)},
		{to(-8, -9), to(-7, -7)},
		{to(100, 2), to(2, 7)},
		{to(-2, -100), to(-7, -2)},
	} {
		if got := strength.Norm(x.a); got != x.want {
			t.Errorf("Norm(%d) returned %d, want %d", x.a, got, x.want)
		}
	}
	for _, a := range every() {
		lo, hi := ends(a)
		if got := strength.Norm(a); got != to(lo, hi) {
			t.Fatalf("Norm(%d) returned %d, want %d to %d", a, got, lo, hi)
		}
	}
}

// P2.1: Contains sees the normalized interval, but the level as it is.
func TestContains(t *testing.T) {
	levels := []int{-1 << 62, -1<<32 + 1, -264, -256, -249, 249, 256, 264, 1<<32 - 1, 1 << 62}
	for n := -130; n <= 130; n++ {
		levels = append(levels, n)
	}
	for _, a := range slices.Concat(valid(), wild()) {
		lo, hi := ends(a)
		for _, n := range levels {
			if got := strength.Contains(a, n); got != (lo <= n && n <= hi) {
				t.Fatalf("Contains(%d, %d) returned %t", a, n, got)
			}
		}
	}
}

// P2.2: the levels of every driver; strengths above 7 count as 7.
func TestDrive(t *testing.T) {
	for s := range 256 {
		for s1 := range 256 {
			n0, n1 := nearest(s), nearest(s1)
			want := []interval{to(-n0, -n0), to(n1, n1), to(-n0, n1), to(0, 0)}
			for _, b := range bits {
				if got := strength.Drive(b, uint8(s), uint8(s1)); got != want[as(b)] {
					t.Fatalf("Drive(%d, %d, %d) returned %d, want %d", b, s, s1, got, want[as(b)])
				}
			}
		}
	}
}

// P2.2: the examples of the chapter, and the limits of strengths and bits.
func TestDriveExamples(t *testing.T) {
	for _, x := range []struct {
		b      api.Bit
		s0, s1 uint8
		want   interval
	}{
		{api.B1, 6, 5, to(5, 5)},
		{api.B0, 6, 5, to(-6, -6)},
		{api.BX, 6, 5, to(-6, 5)},
		{api.BZ, 6, 5, to(0, 0)},
		{4, 6, 5, to(-6, 5)},
		{255, 8, 0, to(-7, 0)},
		{api.B0, 255, 1, to(-7, -7)},
		{api.B1, 1, 128, to(7, 7)},
		{api.B0, 0, 7, to(0, 0)},
		{api.BX, 0, 0, to(0, 0)},
	} {
		if got := strength.Drive(x.b, x.s0, x.s1); got != x.want {
			t.Errorf("Drive(%d, %d, %d) returned %d, want %d", x.b, x.s0, x.s1, got, x.want)
		}
	}
}

// P2.3: combinations of no, one, two and more intervals.
func TestCombine(t *testing.T) {
	for _, x := range []struct {
		l    []interval
		want interval
	}{
		{nil, to(0, 0)},
		{[]interval{to(0, 0)}, to(0, 0)},
		{[]interval{to(-2, 6)}, to(-2, 6)},
		{[]interval{to(9, -9)}, to(-7, 7)},
		{[]interval{to(5, 5), to(-5, -5)}, to(-5, 5)},
		{[]interval{to(5, 5), to(-5, -5), to(6, 6)}, to(6, 6)},
		{[]interval{to(3, 5), to(-4, -4)}, to(-4, 5)},
		{[]interval{to(4, 4), to(4, 4)}, to(4, 4)},
		{[]interval{to(-6, 5), to(5, 5)}, to(-6, 5)},
		{[]interval{to(5, 3), to(-4, -4)}, to(-4, 5)},
		{[]interval{to(100, 100), to(-100, -100)}, to(-7, 7)},
		{[]interval{to(0, 0), to(0, 3), to(0, 0), to(-1, -1)}, to(-1, 3)},
	} {
		if got := strength.Combine(x.l...); got != x.want {
			t.Errorf("Combine(%d) returned %d, want %d", x.l, got, x.want)
		}
	}
}

// P2.3: every interval counts as its normalized one.
func TestCombineNormalizes(t *testing.T) {
	for _, a := range wild() {
		if got := strength.Combine(a); got != to(ends(a)) {
			t.Errorf("Combine(%d) returned %d", a, got)
		}
		for _, b := range wild() {
			want := strength.Combine(to(ends(a)), to(ends(b)))
			if got := strength.Combine(a, b); got != want {
				t.Fatalf("Combine(%d, %d) returned %d, want %d", a, b, got, want)
			}
		}
	}
}

// R3: Combine neither changes the list that it is given nor reads beyond its length.
func TestCombineKeepsArguments(t *testing.T) {
	l := []interval{to(9, -9), to(5, 3), to(-4, -4), to(7, 7)}
	was := slices.Clone(l)
	if got := strength.Combine(l[1:3]...); got != to(-4, 5) {
		t.Errorf("combining a part of a list returned %d", got)
	}
	if !slices.Equal(l, was) {
		t.Errorf("Combine changed its list from %d to %d", was, l)
	}
}

// P2.3: Read on every interval, valid or not.
func TestRead(t *testing.T) {
	for _, a := range every() {
		lo, hi := ends(a)
		want := api.BX
		switch {
		case lo == 0 && hi == 0:
			want = api.BZ
		case lo < 0 && hi < 0:
			want = api.B0
		case lo > 0 && hi > 0:
			want = api.B1
		}
		if got := strength.Read(a); got != want {
			t.Fatalf("Read(%d) returned %d, want %d", a, got, want)
		}
	}
}

// P2.3: the examples of the chapter, and intervals that touch 0.
func TestReadExamples(t *testing.T) {
	for _, x := range []struct {
		a    interval
		want api.Bit
	}{
		{to(0, 0), api.BZ},
		{to(0, 3), api.BX},
		{to(-3, 0), api.BX},
		{to(1, 3), api.B1},
		{to(3, 1), api.B1},
		{to(-1, -1), api.B0},
		{to(-5, 5), api.BX},
		{to(127, 127), api.B1},
		{to(-1, -128), api.B0},
	} {
		if got := strength.Read(x.a); got != x.want {
			t.Errorf("Read(%d) returned %d, want %d", x.a, got, x.want)
		}
	}
}

// P2.4: the names of all strengths; those above 7 have the name of 7.
func TestName(t *testing.T) {
	for s := range 256 {
		stem := stems[nearest(s)]
		if got := strength.Name(uint8(s), false); got != stem+"0" {
			t.Errorf("Name(%d, false) returned %q", s, got)
		}
		if got := strength.Name(uint8(s), true); got != stem+"1" {
			t.Errorf("Name(%d, true) returned %q", s, got)
		}
	}
}

// P2.4: the strengths of all names.
func TestParse(t *testing.T) {
	for i, stem := range stems {
		for _, digit := range []string{"0", "1"} {
			s, one, ok := strength.Parse(stem + digit)
			if int(s) != i || one != (digit == "1") || !ok {
				t.Errorf("Parse(%q) returned %d, %t, %t", stem+digit, s, one, ok)
			}
		}
	}
}

// P2.4: for a string that is no name, the strength and the digit are zero (R1).
func TestParseOther(t *testing.T) {
	other := []string{"", "0", "1", "5", "z", "hiz1", "high1", "tri1", "strength0", strings.Repeat("pull1", 1000)}
	for _, stem := range stems {
		other = append(other, stem)
		for i := range 256 {
			if c := byte(i); c != '0' && c != '1' {
				other = append(other, stem+string([]byte{c}))
			}
		}
		for _, name := range []string{stem + "0", stem + "1"} {
			other = append(other, strings.ToUpper(name), strings.ToUpper(name[:1])+name[1:], name[1:],
				" "+name, name+" ", name+"\x00", name+"\n", name+"0", name+"1", name+name, stem+" "+name[len(stem):])
		}
	}
	for _, name := range other {
		if s, one, ok := strength.Parse(name); s != 0 || one || ok {
			t.Errorf("Parse(%q) returned %d, %t, %t", name, s, one, ok)
		}
	}
}

// meet returns the least and the greatest level that result from combining two levels, by S1.
func meet(x, y int) (lo, hi int) {
	sizeX, sizeY := max(x, -x), max(y, -y)
	switch {
	case sizeX > sizeY || x == y:
		return x, x
	case sizeX < sizeY:
		return y, y
	}
	return -sizeX, sizeX
}

// levels returns, for each level plus 7, whether it results from levels of two valid intervals.
func levels(a, b interval) [15]bool {
	var is [15]bool
	for x := int(a.Lo); x <= int(a.Hi); x++ {
		for y := int(b.Lo); y <= int(b.Hi); y++ {
			lo, hi := meet(x, y)
			for n := lo; n <= hi; n++ {
				is[n+7] = true
			}
		}
	}
	return is
}

// P2.5: the levels of a combination are those that result from the levels of its intervals; they have no gap (P2.3).
func TestElements(t *testing.T) {
	for _, a := range valid() {
		for _, b := range valid() {
			got, want := strength.Combine(a, b), levels(a, b)
			if !strength.Valid(got) {
				t.Fatalf("Combine(%d, %d) returned %d", a, b, got)
			}
			for n := -7; n <= 7; n++ {
				if in := int(got.Lo) <= n && n <= int(got.Hi); in != want[n+7] {
					t.Fatalf("Combine(%d, %d) returned %d, and that %d lies in it should be %t", a, b, got, n, want[n+7])
				}
			}
		}
	}
}

// P2.6: neither the order nor the grouping of three intervals matters.
func TestOrderAndGrouping(t *testing.T) {
	l := valid()
	for i, a := range l {
		for j, b := range l[i:] {
			for _, c := range l[i+j:] {
				want := strength.Combine(a, b, c)
				for _, p := range [][3]interval{{a, b, c}, {a, c, b}, {b, a, c}, {b, c, a}, {c, a, b}, {c, b, a}} {
					flat := strength.Combine(p[:]...)
					left := strength.Combine(strength.Combine(p[0], p[1]), p[2])
					right := strength.Combine(p[0], strength.Combine(p[1], p[2]))
					if flat != want || left != want || right != want {
						t.Fatalf("Combine of %d returned %d, grouped %d and %d, in another order %d", p, flat, left, right, want)
					}
				}
			}
		}
	}
}

// P2.6: 0 to 0 is neutral wherever it stands, also beside intervals that are not valid.
func TestNeutral(t *testing.T) {
	zero := to(0, 0)
	for _, a := range slices.Concat(valid(), wild()) {
		want := to(ends(a))
		for _, l := range [][]interval{{a}, {zero, a}, {a, zero}, {zero, a, zero}} {
			if got := strength.Combine(l...); got != want {
				t.Errorf("Combine(%d) returned %d, want %d", l, got, want)
			}
		}
	}
}

// sizes returns the least and the greatest absolute value of a level of a valid interval.
func sizes(a interval) (least, most int) {
	least = 7
	for n := int(a.Lo); n <= int(a.Hi); n++ {
		size := max(n, -n)
		least, most = min(least, size), max(most, size)
	}
	return least, most
}

// P2.7: an interval wins against one of which every level is weaker than all of its own.
func TestDominance(t *testing.T) {
	wins := 0
	for _, a := range valid() {
		least, _ := sizes(a)
		for _, b := range valid() {
			if _, most := sizes(b); least <= most {
				continue
			}
			wins++
			if strength.Combine(a, b) != a || strength.Combine(b, a) != a {
				t.Errorf("%d does not win against %d", a, b)
			}
		}
	}
	if wins == 0 {
		t.Errorf("no interval was tested")
	}
}

// parts returns all pairs of valid intervals of which the second contains the first.
func parts() [][2]interval {
	var l [][2]interval
	for _, a := range valid() {
		for _, b := range valid() {
			if within(a, b) {
				l = append(l, [2]interval{a, b})
			}
		}
	}
	return l
}

// P2.8: the combination of subintervals lies in that of the intervals.
func TestMonotone(t *testing.T) {
	for _, p := range parts() {
		for _, q := range parts() {
			if part, whole := strength.Combine(p[0], q[0]), strength.Combine(p[1], q[1]); !within(part, whole) {
				t.Fatalf("Combine is %d for %d and %d, but %d for %d and %d", part, p[0], q[0], whole, p[1], q[1])
			}
		}
	}
}

// P2.8: reading a subinterval refines what is read, unless it holds the level 0 only.
func TestMonotoneRead(t *testing.T) {
	for _, p := range parts() {
		if p[0] == to(0, 0) {
			continue
		}
		if part, whole := strength.Read(p[0]), strength.Read(p[1]); !bit.Leq(whole, part) {
			t.Errorf("Read is %d for %d, but %d for %d", part, p[0], whole, p[1])
		}
	}
}

// P2.9: what a driver drives is read as its bit, and an unknown bit may be 0 or 1.
func TestDrivers(t *testing.T) {
	strengths := []uint8{1, 2, 3, 4, 5, 6, 7, 8, 127, 128, 255}
	for _, s0 := range strengths {
		for _, s1 := range strengths {
			for _, b := range bits {
				if got := strength.Read(strength.Drive(b, s0, s1)); got != as(b) {
					t.Errorf("%d driven with %d and %d is read as %d", b, s0, s1, got)
				}
			}
		}
	}
	for _, s0 := range append(strengths, 0) {
		for _, s1 := range append(strengths, 0) {
			zero, one := strength.Drive(api.B0, s0, s1), strength.Drive(api.B1, s0, s1)
			for _, b := range []api.Bit{api.BX, 4, 255} {
				if unknown := strength.Drive(b, s0, s1); !within(zero, unknown) || !within(one, unknown) {
					t.Errorf("%d driven with %d and %d is %d", b, s0, s1, unknown)
				}
			}
		}
	}
}

// P2.10: Parse inverts Name, up to the strengths above 7.
func TestNames(t *testing.T) {
	for i := range 256 {
		for _, want := range []bool{false, true} {
			s, one, ok := strength.Parse(strength.Name(uint8(i), want))
			if int(s) != nearest(i) || one != want || !ok {
				t.Errorf("Parse(Name(%d, %t)) returned %d, %t, %t", i, want, s, one, ok)
			}
		}
	}
}
