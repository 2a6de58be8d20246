package vec_test

import (
	"math/big"
	"slices"
	"strings"
	"testing"

	"netlab/api"
	"netlab/vec"
)

// function is a function of vectors; what it returns beside a vector is written as one.
type function struct {
	name     string
	operands int
	call     func(l []api.Vec) api.Vec
	exact    bool                   // tells known bits from unknown ones, so that it is not monotone
	gap      func(l []api.Vec) bool // reports whether known operands have no known result
}

// unary makes a function of one operand.
func unary(name string, f func(a api.Vec) api.Vec) function {
	return function{name: name, operands: 1, call: func(l []api.Vec) api.Vec { return f(l[0]) }}
}

// twofold makes a function of two operands.
func twofold(name string, f func(a, b api.Vec) api.Vec) function {
	return function{name: name, operands: 2, call: func(l []api.Vec) api.Vec { return f(l[0], l[1]) }}
}

// predicate makes a function of two operands that reports something.
func predicate(name string, f func(a, b api.Vec) bool) function {
	a := twofold(name, func(a, b api.Vec) api.Vec { return of(yes(f(a, b))) })
	a.exact = true
	return a
}

// checked drops the error of a call that has none.
func checked(a api.Vec, _ api.Errno) api.Vec { return a }

// unaryFunctions returns the functions of one operand.
func unaryFunctions() []function {
	beyond := unary("Slice beyond", func(a api.Vec) api.Vec { return checked(vec.Slice(a, 3, -1)) })
	beyond.gap = func([]api.Vec) bool { return true }
	number := unary("Int", func(a api.Vec) api.Vec {
		n, fits := vec.Int(a)
		return of(binary(big.NewInt(n), 64) + yes(fits))
	})
	certain := unary("Known", func(a api.Vec) api.Vec { return of(yes(vec.Known(a))) })
	number.exact, certain.exact = true, true
	return []function{
		beyond, number, certain,
		unary("Truth", func(a api.Vec) api.Vec { return api.Vec{Bits: []api.Bit{vec.Truth(a)}} }),
		unary("WithSign unsigned", func(a api.Vec) api.Vec { return vec.WithSign(a, false) }),
		unary("WithSign signed", func(a api.Vec) api.Vec { return vec.WithSign(a, true) }),
		unary("Resize to 1", func(a api.Vec) api.Vec { return checked(vec.Resize(a, 1)) }),
		unary("Resize to 3", func(a api.Vec) api.Vec { return checked(vec.Resize(a, 3)) }),
		unary("Resize to 128", func(a api.Vec) api.Vec { return checked(vec.Resize(a, 128)) }),
		unary("Concat", func(a api.Vec) api.Vec { return checked(vec.Concat(a)) }),
		unary("Repeat once", func(a api.Vec) api.Vec { return checked(vec.Repeat(a, 1)) }),
		unary("Repeat", func(a api.Vec) api.Vec { return checked(vec.Repeat(a, 3)) }),
		unary("Slice", func(a api.Vec) api.Vec { return checked(vec.Slice(a, 0, 0)) }),
		unary("Not", vec.Not), unary("Neg", vec.Neg), unary("LNot", vec.LNot),
		unary("RedAnd", vec.RedAnd), unary("RedOr", vec.RedOr), unary("RedXor", vec.RedXor),
		unary("RedNand", vec.RedNand), unary("RedNor", vec.RedNor), unary("RedXnor", vec.RedXnor),
	}
}

// functions returns all functions of valid vectors but Same.
func functions() []function {
	division := func(l []api.Vec) bool {
		_, y, _ := balanced(l[0], l[1])
		return !strings.Contains(y, "1")
	}
	negativePower := func(l []api.Vec) bool {
		return !strings.Contains(digits(l[0]), "1") && strings.HasPrefix(text(l[1]), "s1")
	}
	div, mod, pow := twofold("Div", vec.Div), twofold("Mod", vec.Mod), twofold("Pow", vec.Pow)
	div.gap, mod.gap, pow.gap = division, division, negativePower
	caseEq, caseNe := twofold("CaseEq", vec.CaseEq), twofold("CaseNe", vec.CaseNe)
	caseEq.exact, caseNe.exact = true, true
	cond := function{name: "Cond", operands: 3, call: func(l []api.Vec) api.Vec { return vec.Cond(l[0], l[1], l[2]) }}
	return append(unaryFunctions(),
		div, mod, pow, caseEq, caseNe, cond,
		predicate("MatchZ", vec.MatchZ), predicate("MatchX", vec.MatchX), predicate("Leq", vec.Leq),
		twofold("Concat of 2", func(a, b api.Vec) api.Vec { return checked(vec.Concat(a, b)) }),
		function{name: "Concat of 3", operands: 3, call: func(l []api.Vec) api.Vec { return checked(vec.Concat(l...)) }},
		twofold("Put", func(a, b api.Vec) api.Vec { return checked(vec.Put(a, 1, 0, b)) }),
		twofold("Put above", func(a, b api.Vec) api.Vec { return checked(vec.Put(a, 4, 1, b)) }),
		twofold("Put below", func(a, b api.Vec) api.Vec { return checked(vec.Put(a, 1, -2, b)) }),
		twofold("Put outside", func(a, b api.Vec) api.Vec { return checked(vec.Put(a, 90, 80, b)) }),
		twofold("And", vec.And), twofold("Or", vec.Or), twofold("Xor", vec.Xor), twofold("Xnor", vec.Xnor),
		twofold("Add", vec.Add), twofold("Sub", vec.Sub), twofold("Mul", vec.Mul),
		twofold("Eq", vec.Eq), twofold("Ne", vec.Ne),
		twofold("Lt", vec.Lt), twofold("Le", vec.Le), twofold("Gt", vec.Gt), twofold("Ge", vec.Ge),
		twofold("LAnd", vec.LAnd), twofold("LOr", vec.LOr),
		twofold("Shl", vec.Shl), twofold("Shr", vec.Shr), twofold("AShl", vec.AShl), twofold("AShr", vec.AShr),
	)
}

// operands calls f with all lists of n operands: the more of them, the narrower they are.
func operands(n int, f func(l []api.Vec)) {
	choices := every([]int{0, 3, 2, 1}[n])
	l := make([]api.Vec, n)
	var choose func(i int)
	choose = func(i int) {
		if i == n {
			f(l)
			return
		}
		for _, a := range choices {
			l[i] = a
			choose(i + 1)
		}
	}
	choose(0)
}

// with returns a copy of l in which the operand i is a.
func with(l []api.Vec, i int, a api.Vec) []api.Vec {
	changed := slices.Clone(l)
	changed[i] = a
	return changed
}

// An invalid vector counts as the unsigned vector of the single bit x, as each operand of each function.
func TestInvalidOperands(t *testing.T) {
	for _, f := range functions() {
		operands(f.operands, func(l []api.Vec) {
			for i := range l {
				want := text(f.call(with(l, i, of("x"))))
				for _, b := range invalid() {
					is(t, f.name+" with an invalid vector instead", f.call(with(l, i, b)), want, l...)
				}
			}
		})
	}
}

// Several operands may be invalid at once.
func TestAllOperandsInvalid(t *testing.T) {
	for _, f := range functions() {
		want := text(f.call([]api.Vec{of("x"), of("x"), of("x")}[:f.operands]))
		for _, b := range invalid() {
			is(t, f.name+" of invalid vectors", f.call([]api.Vec{b, b, b}[:f.operands]), want)
		}
	}
}

// P4.9: known operands give known results, except for divisions by 0 and negative powers of 0.
func TestKnownResults(t *testing.T) {
	for _, f := range functions() {
		operands(f.operands, func(l []api.Vec) {
			for _, a := range l {
				if !known(digits(a)) {
					return
				}
			}
			gap := f.gap != nil && f.gap(l)
			holds(t, f.name+" of known operands is known", vec.Known(f.call(l)) != gap, l...)
		})
	}
}

// refinements returns the vectors in which one bit that is not known is refined.
func refinements(a api.Vec) []api.Vec {
	var l []api.Vec
	for i, b := range a.Bits {
		if b != api.BX && b != api.BZ {
			continue
		}
		for _, c := range []api.Bit{api.B0, api.B1} {
			r := api.Vec{Bits: slices.Clone(a.Bits), Signed: a.Signed}
			r.Bits[i] = c
			l = append(l, r)
		}
	}
	return l
}

// withoutZ returns a with z counted as x.
func withoutZ(a api.Vec) api.Vec {
	return of(strings.ReplaceAll(text(a), "z", "x"))
}

// checkMonotone refines each operand of a call, one bit at a time: as refining is transitive, that will do.
func checkMonotone(t *testing.T, f function, l []api.Vec) {
	t.Helper()
	before := withoutZ(f.call(l))
	for i := range l {
		for _, r := range refinements(l[i]) {
			refined := with(l, i, r)
			after := withoutZ(f.call(refined))
			holds(t, f.name+" is monotone", vec.Leq(before, after), append(refined, l...)...)
		}
	}
}

// P4.8: refining an operand refines the result.
func TestMonotone(t *testing.T) {
	for _, f := range functions() {
		if f.exact {
			continue
		}
		operands(f.operands, func(l []api.Vec) { checkMonotone(t, f, l) })
	}
}

// P4.8: the same for wider vectors, some of them with all bits known.
func TestMonotoneWide(t *testing.T) {
	next := numbers()
	for _, f := range functions() {
		for i := range 400 {
			l := make([]api.Vec, f.operands)
			for j := range l {
				l[j] = random(next, 1+int(next()>>40%12), next()>>40&1 == 1, i%4 != 0)
			}
			if !f.exact {
				checkMonotone(t, f, l)
			}
		}
	}
}

// P4.8: for a function that is monotone, z counts as x.
func TestZCountsAsX(t *testing.T) {
	for _, f := range functions() {
		if f.exact {
			continue
		}
		operands(f.operands, func(l []api.Vec) {
			plain := slices.Clone(l)
			for i := range plain {
				plain[i] = withoutZ(l[i])
			}
			is(t, f.name+" with z as x", withoutZ(f.call(l)), text(withoutZ(f.call(plain))), l...)
		})
	}
}

// framed returns a copy of a with bits before it and beyond its length, and the whole of it.
func framed(a api.Vec) (part api.Vec, whole []api.Bit) {
	whole = slices.Concat([]api.Bit{9, api.B1}, a.Bits, []api.Bit{api.B1, api.BX, 200})
	return api.Vec{Bits: whole[2 : 2+len(a.Bits)], Signed: a.Signed}, whole
}

// P4.12: arguments are not modified, nor is what lies beyond their length read or written.
func TestArguments(t *testing.T) {
	for _, f := range functions() {
		operands(f.operands, func(l []api.Vec) {
			parts, wholes, before := slices.Clone(l), make([][]api.Bit, len(l)), make([][]api.Bit, len(l))
			for i := range l {
				parts[i], wholes[i] = framed(l[i])
				before[i] = slices.Clone(wholes[i])
			}
			is(t, f.name+" of parts of greater slices", f.call(parts), text(f.call(l)), l...)
			for i := range l {
				holds(t, f.name+" leaves its arguments", slices.Equal(wholes[i], before[i]), l...)
				is(t, f.name+" leaves its list of arguments", parts[i], text(l[i]), l...)
			}
		})
	}
}

// P4.12: Check and Same, which see invalid vectors as they are, leave them so.
func TestArgumentsOfBasics(t *testing.T) {
	for _, a := range append(every(2), invalid()...) {
		x, wholeX := framed(a)
		y, wholeY := framed(a)
		beforeX, beforeY := slices.Clone(wholeX), slices.Clone(wholeY)
		holds(t, "Check of a part", vec.Check(x) == vec.Check(a), a)
		holds(t, "Same of two parts", vec.Same(x, y), a)
		holds(t, "Check and Same leave their arguments", slices.Equal(wholeX, beforeX) && slices.Equal(wholeY, beforeY), a)
	}
}

// overwrite changes a vector, up to the capacity of its memory.
func overwrite(a api.Vec) {
	bits := a.Bits[:cap(a.Bits)]
	for i := range bits {
		bits[i] = 77
	}
}

// P4.12: overwriting a result changes no argument and no other result.
func TestResults(t *testing.T) {
	for _, f := range functions() {
		operands(f.operands, func(l []api.Vec) {
			parts, want := slices.Clone(l), text(f.call(l))
			for i := range l {
				parts[i] = of(text(l[i]))
			}
			first, second := f.call(parts), f.call(parts)
			overwrite(first)
			for i := range l {
				is(t, f.name+" shares no memory with an argument", parts[i], text(l[i]), l...)
			}
			is(t, f.name+" shares no memory with the result before", second, want, l...)
			is(t, f.name+" keeps no memory", f.call(parts), want, l...)
		})
	}
}

// P4.12: the same for invalid operands and for the functions that make vectors of numbers.
func TestFreshResults(t *testing.T) {
	makers := functions()
	for i, f := range makers {
		makers[i].call = func([]api.Vec) api.Vec { return f.call(make([]api.Vec, f.operands)) }
	}
	makers = append(makers,
		function{name: "FromInt", call: func([]api.Vec) api.Vec { return checked(vec.FromInt(-3, 5, true)) }},
		function{name: "Unknown", call: func([]api.Vec) api.Vec { return checked(vec.Unknown(4, false)) }})
	for _, f := range makers {
		first, second := f.call(nil), f.call(nil)
		want := text(first)
		overwrite(first)
		is(t, f.name+" shares no memory with the result before", second, want)
		is(t, f.name+" keeps no memory", f.call(nil), want)
	}
}

// P4.12: the same vector may be passed several times.
func TestSameVectorTwice(t *testing.T) {
	for _, f := range functions() {
		for _, a := range every(3) {
			x := of(text(a))
			want := f.call([]api.Vec{a, of(text(a)), of(text(a))}[:f.operands])
			is(t, f.name+" of the same vector", f.call([]api.Vec{x, x, x}[:f.operands]), text(want), a)
			is(t, f.name+" of the same vector leaves it", x, text(a))
		}
	}
}
