package vec

import (
	"slices"

	"netlab/api"
)

// Resize extends or shortens a; its sign remains.
func Resize(a api.Vec, width int) (api.Vec, api.Errno) {
	if !validWidth(width) {
		return api.Vec{}, api.ErrWidth
	}
	return fit(operand(a), width), api.OK
}

// Concat returns the unsigned vector of the bits of all vectors, the first one being the most significant.
func Concat(l ...api.Vec) (api.Vec, api.Errno) {
	if len(l) == 0 {
		return api.Vec{}, api.ErrShort
	}
	bits := []api.Bit{}
	for _, a := range slices.Backward(l) {
		bits = append(bits, operand(a).Bits...)
		if len(bits) > api.MaxWidth {
			return api.Vec{}, api.ErrWidth
		}
	}
	return api.Vec{Bits: bits}, api.OK
}

// Repeat returns the concatenation of n copies of a.
func Repeat(a api.Vec, n int) (api.Vec, api.Errno) {
	a = operand(a)
	switch {
	case n < 1:
		return api.Vec{}, api.ErrArg
	case n > api.MaxWidth/len(a.Bits): // the product might overflow
		return api.Vec{}, api.ErrWidth
	}
	return api.Vec{Bits: slices.Repeat(a.Bits, n)}, api.OK
}

// Slice returns the unsigned vector of the bits hi to lo of a, with x where a has none.
func Slice(a api.Vec, hi, lo int) (api.Vec, api.Errno) {
	width, e := span(hi, lo)
	if e != api.OK {
		return api.Vec{}, e
	}
	a = operand(a)
	return build(width, false, func(i int) api.Bit { return at(a, lo+i, api.BX) }), api.OK
}

// Put returns a with its bits hi to lo replaced by those of b.
func Put(a api.Vec, hi, lo int, b api.Vec) (api.Vec, api.Errno) {
	width, e := span(hi, lo)
	if e != api.OK {
		return api.Vec{}, e
	}
	a, b = operand(a), fit(operand(b), width)
	replaced := func(i int) api.Bit {
		if i < lo || i > hi {
			return a.Bits[i]
		}
		return b.Bits[i-lo]
	}
	return build(len(a.Bits), a.Signed, replaced), api.OK
}

// span returns the number of the bits hi to lo.
func span(hi, lo int) (width int, e api.Errno) {
	if hi < lo {
		return 0, api.ErrArg
	}
	distance := uint(hi) - uint(lo) // as an int it might overflow
	if distance >= api.MaxWidth {
		return 0, api.ErrWidth
	}
	return int(distance) + 1, api.OK
}
