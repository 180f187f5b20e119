package formula_test

import (
	"math"
	"math/big"
	"math/rand"
	"slices"
	"testing"

	"quicksilver/api"
	"quicksilver/formula"
)

// The least and the greatest size of a Mant.
const (
	least = 1 << 22
	most  = 1<<23 - 1
)

func fl(mant, exp int) api.FoFloat { return api.FoFloat{Mant: mant, Exp: exp} }

// P7.7, with the chapter's examples.
func TestFloat(t *testing.T) {
	for _, x := range []struct {
		n, exp int
		want   api.FoFloat
		e      api.Errno
	}{
		{1, 0, fl(4194304, 1), api.OK}, {-3, 4, fl(-6291456, 6), api.OK}, {0, 9, fl(0, 0), api.OK},
		{0, 200, fl(0, 0), api.OK}, {0, -200, fl(0, 0), api.OK}, {-1, 0, fl(-least, 1), api.OK},
		{least, 0, fl(least, 23), api.OK}, {least - 1, 0, fl(most-1, 22), api.OK}, {most, 0, fl(most, 23), api.OK}, {most + 1, 0, fl(least, 24), api.OK}, {most + 2, 0, fl(least, 24), api.OK}, {most + 3, 0, fl(least+1, 24), api.OK},
		{-most, 0, fl(-most, 23), api.OK}, {-most - 1, 0, fl(-least, 24), api.OK}, {-most - 2, 0, fl(-least, 24), api.OK}, {1<<24 - 1, 0, fl(most, 24), api.OK}, {1 - 1<<24, 0, fl(-most, 24), api.OK},
		{1 << 46, 0, fl(least, 47), api.OK}, {-1 << 46, 0, fl(-least, 47), api.OK}, {1<<46 - 1, 0, fl(most, 46), api.OK}, {1 - 1<<46, 0, fl(-most, 46), api.OK},
		{1 << 46, 16, fl(least, 63), api.OK}, {1 << 46, 17, fl(0, 0), api.FoErrBig}, {1, 62, fl(least, 63), api.OK}, {1, 63, fl(0, 0), api.FoErrBig}, {-1, 63, fl(0, 0), api.FoErrBig}, {1<<46 - 1, 17, fl(most, 63), api.OK}, {1, 200, fl(0, 0), api.FoErrBig}, {-1 << 46, 200, fl(0, 0), api.FoErrBig},
		{1, -65, fl(least, -64), api.OK}, {1, -66, fl(0, 0), api.OK}, {-1, -66, fl(0, 0), api.OK}, {3, -66, fl(3<<21, -64), api.OK}, {3, -67, fl(0, 0), api.OK}, {1<<46 - 1, -110, fl(most, -64), api.OK}, {1<<46 - 1, -111, fl(0, 0), api.OK}, {1 << 46, -200, fl(0, 0), api.OK}, {1, -200, fl(0, 0), api.OK},
		{1<<46 + 1, 0, fl(0, 0), api.ErrRange}, {-1<<46 - 1, 0, fl(0, 0), api.ErrRange}, {math.MaxInt, 0, fl(0, 0), api.ErrRange}, {math.MinInt, 0, fl(0, 0), api.ErrRange},
		{1, 201, fl(0, 0), api.ErrRange}, {1, -201, fl(0, 0), api.ErrRange}, {0, 201, fl(0, 0), api.ErrRange}, {1, math.MaxInt, fl(0, 0), api.ErrRange}, {1, math.MinInt, fl(0, 0), api.ErrRange},
	} {
		if y, e := formula.Float(x.n, x.exp); y != x.want || e != x.e {
			t.Errorf("Float of %d, %d: %v, %d, not %v, %d", x.n, x.exp, y, e, x.want, x.e)
		}
	}
}

// near reports whether a number differs from the exact one by at most its size, divided by a power of 2; or the exact one's size is below another one.
func near(x api.FoFloat, exact *big.Rat, bits, tiny int) bool {
	size := new(big.Rat).Abs(exact)
	if size.Cmp(power(tiny)) < 0 {
		return true
	}
	off := new(big.Rat).Sub(exactFloat(x), exact)
	return off.Abs(off).Cmp(size.Mul(size, power(-bits))) <= 0
}

// P7.7 against the definition; and P7.13: how much what Float returns can differ.
func TestFloatOfAll(t *testing.T) {
	r := rand.New(rand.NewSource(8))
	for range 20000 {
		n := (r.Intn(1<<47) - 1<<46) >> r.Intn(47)
		exp := r.Intn(401) - 200
		if r.Intn(2) == 0 {
			exp = r.Intn(150) - 110
		}
		exact := new(big.Rat).Mul(rat(n, 1), power(exp))
		want, wantE := plainFloat(exact)
		x, e := formula.Float(n, exp)
		if x != want || e != wantE {
			t.Fatalf("Float of %d, %d: %v, %d, not %v, %d", n, exp, x, e, want, wantE)
		}
		if e != api.OK {
			continue
		}
		off := new(big.Rat).Sub(exactFloat(x), exact)
		size := new(big.Rat).Abs(exact)
		if n != 0 && size.Cmp(power(-65)) >= 0 && off.Abs(off).Cmp(size.Mul(size, power(-22))) >= 0 {
			t.Fatalf("Float of %d, %d: %v, off by %v", n, exp, x, off)
		}
	}
}

// calc returns what a step with the registers 0 and 1 makes, in the register 2.
func calc(what int, a, b api.FoFloat) (api.FoFloat, int, api.Errno) {
	after, at, e := formula.Calc([]api.FoFloat{a, b, fl(0, 0)}, []api.FoStep{{Op: what, A: 0, B: 1, To: 2}})
	if e != api.OK {
		return api.FoFloat{}, at, e
	}
	if len(after) != 3 || after[0] != a || after[1] != b {
		return api.FoFloat{}, -1, e
	}
	return after[2], at, e
}

// P7.8, with the chapter's examples: single steps.
func TestSteps(t *testing.T) {
	one, three, zero := fl(least, 1), fl(3<<21, 2), fl(0, 0)
	for i, x := range []struct {
		what       int
		a, b, want api.FoFloat
		e          api.Errno
	}{
		{3, one, fl(-6291456, 6), fl(-6160384, 6), api.OK}, {5, fl(-6160384, 6), fl(-6291456, 6), fl(4620288, 12), api.OK},
		{3, one, three, fl(least, 3), api.OK}, {4, one, three, fl(-least, 2), api.OK}, {4, three, one, fl(least, 2), api.OK}, {4, three, three, zero, api.OK}, {3, three, fl(-3<<21, 2), zero, api.OK},
		{3, zero, three, three, api.OK}, {3, three, zero, three, api.OK}, {4, zero, three, fl(-3<<21, 2), api.OK}, {4, three, zero, three, api.OK}, {3, zero, zero, zero, api.OK}, {4, zero, zero, zero, api.OK},
		{3, zero, fl(least, -64), fl(least, -64), api.OK}, {4, fl(least, -64), zero, fl(least, -64), api.OK},
		{5, three, three, fl(9<<19, 4), api.OK}, {5, three, zero, zero, api.OK}, {5, zero, zero, zero, api.OK}, {5, fl(most, 0), fl(most, 0), fl(most-1, 0), api.OK}, {5, fl(-most, 0), fl(most, 0), fl(1-most, 0), api.OK},
		{6, three, one, three, api.OK}, {6, one, three, fl(5592405, -1), api.OK}, {6, fl(-least, 1), three, fl(-5592405, -1), api.OK}, {6, zero, three, zero, api.OK}, {6, three, zero, zero, api.ErrZero}, {6, zero, zero, zero, api.ErrZero}, {6, fl(most, 0), fl(least, 0), fl(most, 1), api.OK}, {6, fl(least, 0), fl(most, 0), fl(least, 0), api.OK},
		// The lesser one is rounded towards 0 first: then nothing is left of it beyond 30 bits behind those of the greater one.
		{3, one, fl(least, -23), one, api.OK}, {4, one, fl(least, -23), fl(most, 0), api.OK}, {4, one, fl(least, -51), fl(most, 0), api.OK}, {4, one, fl(most, -52), one, api.OK}, {4, one, fl(least, -52), one, api.OK}, {4, fl(-least, 1), fl(-least, -51), fl(-most, 0), api.OK}, {3, fl(-least, 1), fl(least, -52), fl(-least, 1), api.OK},
		{4, one, fl(most, -53), one, api.OK}, {4, fl(least, 63), fl(most, -64), fl(least, 63), api.OK}, {3, fl(-most, -64), fl(least, 63), fl(least, 63), api.OK},
		{5, fl(least, 40), fl(least, 24), fl(least, 63), api.OK}, {5, fl(least, 40), fl(least, 25), zero, api.FoErrBig}, {5, fl(least, -40), fl(-least, -23), fl(-least, -64), api.OK}, {5, fl(least, -40), fl(least, -24), zero, api.OK}, {5, fl(most, 63), fl(most, 63), zero, api.FoErrBig}, {5, fl(least, -64), fl(least, -64), zero, api.OK},
		{3, fl(least, 63), fl(least, 63), zero, api.FoErrBig}, {3, fl(-most, 63), fl(-least, 63), zero, api.FoErrBig}, {3, fl(most, 63), fl(most, -64), fl(most, 63), api.OK}, {4, fl(least, -63), fl(most, -64), zero, api.OK}, {4, fl(least, -64), fl(least+1, -64), zero, api.OK}, {6, fl(least, 63), fl(least, 0), zero, api.FoErrBig}, {6, fl(least, 62), fl(least, 0), fl(least, 63), api.OK}, {6, fl(least, -64), fl(least, 2), zero, api.OK}, {6, fl(least, -64), fl(least, 1), fl(least, -64), api.OK},
	} {
		if got, at, e := calc(x.what, x.a, x.b); got != x.want || at != 0 || e != x.e {
			t.Errorf("%d: the step %d with %v and %v: %v, %d, %d, not %v, %d", i, x.what, x.a, x.b, got, at, e, x.want, x.e)
		}
	}
}

// P7.8, with the chapter's example: registers after all steps, and each error in its order.
func TestCalc(t *testing.T) {
	one, three, zero := fl(least, 1), fl(3<<21, 2), fl(0, 0)
	step := func(what, a, b, to int) api.FoStep { return api.FoStep{Op: what, A: a, B: b, To: to} }
	add := step(3, 0, 0, 0)
	for i, x := range []struct {
		regs  []api.FoFloat
		steps []api.FoStep
		after []api.FoFloat
		at    int
		e     api.Errno
	}{
		{[]api.FoFloat{one, fl(-6291456, 6)}, []api.FoStep{step(3, 0, 1, 0), step(5, 0, 1, 1)}, []api.FoFloat{fl(-6160384, 6), fl(4620288, 12)}, 0, api.OK},
		{[]api.FoFloat{one}, nil, []api.FoFloat{one}, 0, api.OK}, {[]api.FoFloat{one}, []api.FoStep{add, add}, []api.FoFloat{fl(least, 3)}, 0, api.OK}, {[]api.FoFloat{one, zero}, []api.FoStep{step(4, 1, 0, 1), step(6, 0, 1, 0)}, []api.FoFloat{fl(-least, 1), fl(-least, 1)}, 0, api.OK},
		{make([]api.FoFloat, 8), slices.Repeat([]api.FoStep{step(5, 7, 7, 7)}, 40), make([]api.FoFloat, 8), 0, api.OK},
		{nil, []api.FoStep{{}}, nil, 0, api.ErrLong}, {make([]api.FoFloat, 9), nil, nil, 0, api.ErrLong}, {[]api.FoFloat{fl(1, 1)}, slices.Repeat([]api.FoStep{add}, 41), nil, 0, api.ErrLong},
		{[]api.FoFloat{one, fl(0, 1)}, []api.FoStep{{}}, nil, 1, api.ErrRange}, {[]api.FoFloat{one, one, fl(0, -64), fl(0, 1)}, nil, nil, 2, api.ErrRange}, {[]api.FoFloat{fl(1, 0)}, nil, nil, 0, api.ErrRange}, {[]api.FoFloat{fl(least-1, 0)}, nil, nil, 0, api.ErrRange}, {[]api.FoFloat{fl(1-least, 0)}, nil, nil, 0, api.ErrRange}, {[]api.FoFloat{fl(most+1, 0)}, nil, nil, 0, api.ErrRange}, {[]api.FoFloat{fl(-most-1, 0)}, nil, nil, 0, api.ErrRange},
		{[]api.FoFloat{fl(math.MinInt, 0)}, nil, nil, 0, api.ErrRange}, {[]api.FoFloat{fl(math.MaxInt, 0)}, nil, nil, 0, api.ErrRange}, {[]api.FoFloat{fl(least, 64)}, nil, nil, 0, api.ErrRange}, {[]api.FoFloat{fl(least, -65)}, nil, nil, 0, api.ErrRange}, {[]api.FoFloat{fl(least, math.MinInt)}, nil, nil, 0, api.ErrRange}, {[]api.FoFloat{fl(least, math.MaxInt)}, nil, nil, 0, api.ErrRange},
		{[]api.FoFloat{fl(least, 63), fl(-least, 63), fl(most, -64), fl(-most, -64)}, nil, []api.FoFloat{fl(least, 63), fl(-least, 63), fl(most, -64), fl(-most, -64)}, 0, api.OK},
		{[]api.FoFloat{one}, []api.FoStep{add, step(2, 0, 0, 0)}, nil, 1, api.ErrArg}, {[]api.FoFloat{one}, []api.FoStep{step(7, 9, 0, 0)}, nil, 0, api.ErrArg}, {[]api.FoFloat{one}, []api.FoStep{step(0, 0, 0, 0)}, nil, 0, api.ErrArg}, {[]api.FoFloat{one}, []api.FoStep{step(math.MinInt, 0, 0, 0)}, nil, 0, api.ErrArg}, {[]api.FoFloat{one}, []api.FoStep{step(3, 1, 0, 0), step(9, 0, 0, 0)}, nil, 0, api.ErrNone},
		{[]api.FoFloat{one}, []api.FoStep{add, step(3, 1, 0, 0)}, nil, 1, api.ErrNone}, {[]api.FoFloat{one}, []api.FoStep{step(4, -1, 0, 0)}, nil, 0, api.ErrNone}, {[]api.FoFloat{one}, []api.FoStep{step(5, 0, 1, 0)}, nil, 0, api.ErrNone}, {[]api.FoFloat{one}, []api.FoStep{step(6, 0, -1, 0)}, nil, 0, api.ErrNone}, {[]api.FoFloat{one}, []api.FoStep{step(3, 0, 0, 1)}, nil, 0, api.ErrNone}, {[]api.FoFloat{one}, []api.FoStep{step(3, 0, 0, -1)}, nil, 0, api.ErrNone}, {[]api.FoFloat{one}, []api.FoStep{step(3, math.MaxInt, math.MinInt, 0)}, nil, 0, api.ErrNone},
		{[]api.FoFloat{one, zero}, []api.FoStep{step(6, 0, 1, 0), add, step(1, 0, 0, 0)}, nil, 2, api.ErrArg}, {[]api.FoFloat{one, zero}, []api.FoStep{step(6, 0, 1, 0), step(3, 0, 0, 2)}, nil, 1, api.ErrNone},
		{[]api.FoFloat{one, zero}, []api.FoStep{add, step(6, 0, 1, 0), add}, nil, 1, api.ErrZero}, {[]api.FoFloat{one}, []api.FoStep{step(4, 0, 0, 0), step(6, 0, 0, 0)}, nil, 1, api.ErrZero}, {[]api.FoFloat{fl(least, 61)}, []api.FoStep{add, add, add, add}, nil, 2, api.FoErrBig}, {[]api.FoFloat{fl(least, 63), zero}, []api.FoStep{step(5, 0, 0, 0), step(6, 0, 1, 0)}, nil, 0, api.FoErrBig}, {[]api.FoFloat{fl(least, 63), zero}, []api.FoStep{step(6, 0, 1, 0), step(5, 0, 0, 0)}, nil, 0, api.ErrZero},
		{[]api.FoFloat{three, one}, []api.FoStep{step(6, 0, 1, 1), step(4, 0, 1, 0), step(3, 0, 1, 0)}, []api.FoFloat{three, three}, 0, api.OK},
	} {
		after, at, e := formula.Calc(x.regs, x.steps)
		if !slices.Equal(after, x.after) || at != x.at || e != x.e {
			t.Errorf("%d: Calc of %v, %v: %v, %d, %d, not %v, %d, %d", i, x.regs, x.steps, after, at, e, x.after, x.at, x.e)
		}
	}
}

// someFloat returns a floating number.
func someFloat(r *rand.Rand) api.FoFloat {
	if r.Intn(30) == 0 {
		return fl(0, 0)
	}
	mant, exp := least+r.Intn(most-least+1), r.Intn(128)-64
	switch r.Intn(8) {
	case 0:
		mant = least
	case 1:
		mant = most
	}
	if r.Intn(2) == 0 {
		exp = r.Intn(24) - 12
	}
	if r.Intn(2) == 0 {
		mant = -mant
	}
	return fl(mant, exp)
}

// P7.8 against the definition; and P7.13: how much results can differ.
func TestStepsOfAll(t *testing.T) {
	r := rand.New(rand.NewSource(9))
	met := map[api.Errno]int{}
	for range 60000 {
		a, b, what := someFloat(r), someFloat(r), 3+r.Intn(4)
		if r.Intn(4) == 0 {
			b.Mant, b.Exp = b.Mant/2, a.Exp+r.Intn(3)-1
			b, _ = plainFloat(exactFloat(b))
		}
		want, wantE := plainStep(what, a, b)
		got, _, e := calc(what, a, b)
		met[e]++
		if got != want || e != wantE {
			t.Fatalf("the step %d with %v and %v: %v, %d, not %v, %d", what, a, b, got, e, want, wantE)
		}
		if e != api.OK {
			continue
		}
		exact, x, y := new(big.Rat), exactFloat(a), exactFloat(b)
		switch what {
		case 3:
			exact.Add(x, y)
		case 4:
			exact.Sub(x, y)
		case 5:
			exact.Mul(x, y)
		case 6:
			exact.Quo(x, y)
		}
		if !near(got, exact, 21, -64) {
			t.Fatalf("the step %d with %v and %v: %v, not near %v", what, a, b, got, exact)
		}
	}
	if met[api.OK] < 10000 || met[api.ErrZero] < 50 || met[api.FoErrBig] < 1000 {
		t.Errorf("the errors occur so often: %v", met)
	}
}

// P7.14: laws of single steps.
func TestFloatingLaws(t *testing.T) {
	r := rand.New(rand.NewSource(10))
	one := fl(least, 1)
	for range 20000 {
		a, b := someFloat(r), someFloat(r)
		for _, what := range []int{3, 5} {
			x, _, e := calc(what, a, b)
			y, _, g := calc(what, b, a)
			if x != y || e != g {
				t.Fatalf("the step %d with %v and %v: %v, %d; %v, %d", what, a, b, x, e, y, g)
			}
		}
		zero, _, e1 := calc(4, a, a)
		times, _, e2 := calc(5, a, one)
		added, _, e3 := calc(3, a, fl(0, 0))
		if zero != fl(0, 0) || times != a || added != a || e1+e2+e3 != api.OK {
			t.Fatalf("with %v: %v, %v, %v", a, zero, times, added)
		}
	}
}

// P7.14: steps can be cut anywhere.
func TestStepsCut(t *testing.T) {
	r := rand.New(rand.NewSource(11))
	done := 0
	for range 5000 {
		regs := make([]api.FoFloat, 1+r.Intn(8))
		for i := range regs {
			regs[i] = someFloat(r)
		}
		steps := make([]api.FoStep, r.Intn(12))
		for i := range steps {
			steps[i] = api.FoStep{Op: 3 + r.Intn(4), A: r.Intn(len(regs)), B: r.Intn(len(regs)), To: r.Intn(len(regs))}
		}
		cut := r.Intn(len(steps) + 1)
		all, at, e := formula.Calc(regs, steps)
		first, firstAt, firstE := formula.Calc(regs, steps[:cut])
		if firstE != api.OK {
			if at != firstAt || e != firstE {
				t.Fatalf("Calc of %v, %v: %d, %d; cut at %d: %d, %d", regs, steps, at, e, cut, firstAt, firstE)
			}
			continue
		}
		rest, restAt, restE := formula.Calc(first, steps[cut:])
		if e != api.OK {
			restAt += cut
		} else {
			done++
		}
		if !slices.Equal(all, rest) || at != restAt || e != restE {
			t.Fatalf("Calc of %v, %v: %v, %d, %d; cut at %d: %v, %d, %d", regs, steps, all, at, e, cut, rest, restAt, restE)
		}
	}
	if done < 1000 {
		t.Errorf("%d of 5000 steps could be done", done)
	}
}
