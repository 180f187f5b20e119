package formula

import (
	"slices"

	"quicksilver/api"
)

const (
	mantBits = 23                  // Mant is counted in parts of 2 to the power of this
	mostMant = 1<<mantBits - 1     // the greatest size of Mant
	leastExp = -api.FoExp - 1      // the least Exp
	mostNum  = 1 << (2 * mantBits) // the greatest size of a number that is made floating
	moreBits = 30                  // bits that are kept behind those of a Mant
	farApart = mantBits + moreBits // if two Exp differ by so much, nothing is left of the lesser number
)

// Float returns a number times a power of two as a floating number.
func Float(n, exp int) (api.FoFloat, api.Errno) {
	if !within(-mostNum, mostNum, n) || !within(-api.MaxFoShift, api.MaxFoShift, exp) {
		return api.FoFloat{}, api.ErrRange
	}
	return floating(n, exp)
}

// floating returns a number times a power of two, made floating.
func floating(n, exp int) (api.FoFloat, api.Errno) {
	if n == 0 {
		return api.FoFloat{}, api.OK
	}
	for size(n) > mostMant {
		n /= 2
		exp++
	}
	for size(n) <= mostMant/2 {
		n *= 2
		exp--
	}
	exp += mantBits
	switch {
	case exp < leastExp:
		return api.FoFloat{}, api.OK
	case exp > api.FoExp:
		return api.FoFloat{}, api.FoErrBig
	}
	return api.FoFloat{Mant: n, Exp: exp}, api.OK
}

// size returns a number without its sign.
func size(n int) int { return max(n, -n) }

// Calc returns the registers after some steps; or the first step that cannot be done.
func Calc(regs []api.FoFloat, steps []api.FoStep) (after []api.FoFloat, at int, e api.Errno) {
	if at, e := calcError(regs, steps); e != api.OK {
		return nil, at, e
	}
	after = slices.Clone(regs)
	for i, s := range steps {
		result, e := resultOf(s.Op, after[s.A], after[s.B])
		if e != api.OK {
			return nil, i, e
		}
		after[s.To] = result
	}
	return after, 0, api.OK
}

// calcError returns the error of what Calc is given, and where it is.
func calcError(regs []api.FoFloat, steps []api.FoStep) (at int, e api.Errno) {
	if !within(1, api.MaxFoRegs, len(regs)) || len(steps) > api.MaxFoSteps {
		return 0, api.ErrLong
	}
	for i, x := range regs {
		if !isFloat(x) {
			return i, api.ErrRange
		}
	}
	for i, s := range steps {
		if !within(api.FoAdd, api.FoDiv, s.Op) {
			return i, api.ErrArg
		}
		last := len(regs) - 1
		if !within(0, last, s.A) || !within(0, last, s.B) || !within(0, last, s.To) {
			return i, api.ErrNone
		}
	}
	return 0, api.OK
}

// isFloat reports whether a number is a floating one.
func isFloat(x api.FoFloat) bool {
	if x == (api.FoFloat{}) {
		return true
	}
	const least = mostMant/2 + 1
	sized := within(least, mostMant, x.Mant) || within(-mostMant, -least, x.Mant)
	return sized && within(leastExp, api.FoExp, x.Exp)
}

// resultOf returns the result of an Op that there is.
func resultOf(op int, a, b api.FoFloat) (api.FoFloat, api.Errno) {
	switch op {
	case api.FoSub:
		b.Mant = -b.Mant
		return sumOf(a, b)
	case api.FoMul:
		return floating(a.Mant*b.Mant, a.Exp+b.Exp-2*mantBits)
	case api.FoDiv:
		return quotientOf(a, b)
	}
	return sumOf(a, b)
}

func quotientOf(a, b api.FoFloat) (api.FoFloat, api.Errno) {
	if b.Mant == 0 {
		return api.FoFloat{}, api.ErrZero
	}
	return floating((a.Mant<<moreBits)/b.Mant, a.Exp-b.Exp-moreBits)
}

func sumOf(a, b api.FoFloat) (api.FoFloat, api.Errno) {
	switch {
	case a.Mant == 0:
		return b, api.OK
	case b.Mant == 0:
		return a, api.OK
	case a.Exp < b.Exp:
		a, b = b, a
	}
	apart := min(a.Exp-b.Exp, farApart)
	// Divided, not shifted: a number below 0 is rounded towards 0, too.
	lesser := (b.Mant << moreBits) / (1 << apart)
	return floating((a.Mant<<moreBits)+lesser, a.Exp-mantBits-moreBits)
}
