package formula_test

import (
	"math"
	"math/rand"
	"slices"
	"strings"
	"testing"

	"quicksilver/api"
	"quicksilver/formula"
)

// P7.1: each error, at the edges of what is stated.
func TestCheck(t *testing.T) {
	long := func(many int) api.FoFormula {
		f := of("a", v(0))
		for len(f.Code) < many {
			f.Code = append(f.Code, v(0), op(5))
		}
		return f
	}
	eight := of("a b c d e f g h", v(0), v(1), op(3), v(2), op(3), v(3), op(3), v(4), op(3), v(5), op(3), v(6), op(3), v(7), op(3))
	for i, x := range []struct {
		f api.FoFormula
		e api.Errno
	}{
		{exampleF(), api.OK}, {eight, api.OK}, {of("", c(0, 1)), api.OK}, {of("a", v(0)), api.OK},
		{of("a b c d e f g h i", eight.Code...), api.ErrLong},
		{of("a"), api.ErrLong}, {api.FoFormula{}, api.ErrLong}, {long(39), api.OK}, {long(41), api.ErrLong},
		{of("", slices.Repeat([]api.FoNode{op(9)}, 41)...), api.ErrLong},
		{of("a A", v(0)), api.ErrForm}, {of("a a", v(0)), api.ErrTwice}, {of("a b a", v(0)), api.ErrTwice},
		{api.FoFormula{Vars: []string{"a", ""}, Code: []api.FoNode{v(0)}}, api.ErrForm},
		{of("a_", v(0)), api.ErrForm}, {of("_a", v(0)), api.ErrForm}, {of("a.b", v(0)), api.ErrForm}, {of("0.5", v(0)), api.ErrForm},
		{of(strings.Repeat("n", 20), v(0)), api.OK}, {of(strings.Repeat("n", 21), v(0)), api.ErrForm},
		{of("", op(0)), api.ErrArg}, {of("", op(6)), api.ErrArg}, {of("", op(-1)), api.ErrArg}, {of("", op(math.MaxInt)), api.ErrArg}, {of("", op(math.MinInt)), api.ErrArg},
		{of("a", v(1)), api.ErrRange}, {of("a", v(-1)), api.ErrRange}, {of("a", v(math.MaxInt)), api.ErrRange}, {of("a", v(math.MinInt)), api.ErrRange}, {of("", v(0)), api.ErrRange},
		{of("a", api.FoNode{Kind: 1, Num: 1}), api.ErrRange}, {of("a", api.FoNode{Kind: 1, Places: 1}), api.ErrRange},
		{of("a", api.FoNode{Kind: 2, Var: 1, Num: 1, Places: 1}), api.ErrRange}, {of("a", api.FoNode{Kind: 2, Var: -1, Num: 1, Places: 1}), api.ErrRange},
		{of("", c(1, 0)), api.ErrRange}, {of("", c(0, 0)), api.ErrRange}, {of("", c(1, 7)), api.ErrRange}, {of("", c(1, -1)), api.ErrRange},
		{of("", c(1, math.MaxInt)), api.ErrRange}, {of("", c(1, math.MinInt)), api.ErrRange},
		{of("", c(-1, 1)), api.ErrRange}, {of("", c(9, 1)), api.OK}, {of("", c(10, 1)), api.ErrRange}, {of("", c(99, 2)), api.OK}, {of("", c(101, 2)), api.ErrRange},
		{of("", c(999999, 6)), api.OK}, {of("", c(1000001, 6)), api.ErrRange}, {of("", c(math.MaxInt, 6)), api.ErrRange}, {of("", c(math.MinInt, 6)), api.ErrRange},
		{of("", c(0, 2)), api.ErrRange}, {of("", c(10, 2)), api.ErrRange}, {of("", c(90, 3)), api.ErrRange}, {of("", c(100, 6)), api.ErrRange}, {of("", c(101, 6)), api.OK},
		{of("a", v(0), v(0), api.FoNode{Kind: 3, Var: 1}), api.ErrRange}, {of("a", v(0), v(0), api.FoNode{Kind: 4, Num: 1}), api.ErrRange}, {of("a", v(0), v(0), api.FoNode{Kind: 5, Places: 1}), api.ErrRange},
		{of("", op(3)), api.ErrForm}, {of("a", v(0), op(4)), api.ErrForm}, {of("a", v(0), v(0), op(5), op(5)), api.ErrForm},
		{tower(12), api.OK}, {tower(13), api.ErrLong}, {of("", slices.Repeat([]api.FoNode{c(1, 1)}, 13)...), api.ErrLong}, {of("", slices.Repeat([]api.FoNode{c(1, 1)}, 12)...), api.ErrForm},
		{of("a", v(0), v(0)), api.ErrForm}, {of("a b", v(0), v(1)), api.ErrForm},
		{of("a", c(1, 1)), api.ErrArg}, {of("a b", v(0)), api.ErrArg}, {of("a b", v(1)), api.ErrArg}, {of("a b", v(1), v(0), op(3)), api.ErrArg},
		{of("a b c", v(0), v(2), op(3), v(1), op(3)), api.ErrArg}, {of("a b", v(0), v(0), v(1), op(3), op(3)), api.OK}, {of("a b c", v(0), v(1), v(0), v(2), op(3), op(3), op(3)), api.OK},
	} {
		if e := formula.Check(x.f); e != x.e {
			t.Errorf("%d: Check of %v: %d, not %d", i, x.f, e, x.e)
		}
	}
}

// P7.1: of several errors the one named first; of several elements the first one with an error.
func TestOrderOfErrors(t *testing.T) {
	for i, x := range []struct {
		f api.FoFormula
		e api.Errno
	}{
		{of("a a a a a a a a A", op(0)), api.ErrLong}, {of("A a a"), api.ErrLong},
		{of("a A a", op(0)), api.ErrForm}, {of("a a A", op(0)), api.ErrTwice}, {of("A A", op(0)), api.ErrForm},
		{of("", api.FoNode{Kind: 6, Num: 1}), api.ErrArg}, {of("", op(3), op(0)), api.ErrForm}, {of("", c(1, 0), op(0)), api.ErrRange}, {of("", v(0), op(3)), api.ErrRange},
		{of("", api.FoNode{Kind: 3, Num: 1}), api.ErrRange},
		{of("", append(slices.Repeat([]api.FoNode{c(1, 1)}, 12), c(1, 0))...), api.ErrRange},
		{of("", append(slices.Repeat([]api.FoNode{c(1, 1)}, 13), op(0))...), api.ErrLong},
		{of("a b", v(1), op(0)), api.ErrArg}, {of("a b", v(1), c(0, 0)), api.ErrRange}, {of("a b", v(1), v(1)), api.ErrForm},
	} {
		if e := formula.Check(x.f); e != x.e {
			t.Errorf("%d: Check of %v: %d, not %d", i, x.f, e, x.e)
		}
	}
}

// spoilt returns a formula of which some things may not be as stated.
func spoilt(r *rand.Rand, f api.FoFormula) api.FoFormula {
	f = copied(f)
	for range r.Intn(3) {
		n := &f.Code[r.Intn(len(f.Code))]
		switch r.Intn(9) {
		case 0:
			n.Kind = r.Intn(8) - 1
		case 1:
			n.Var = r.Intn(10) - 1
		case 2:
			n.Num = extremes()[r.Intn(len(extremes()))]
		case 3:
			n.Places = r.Intn(9) - 1
		case 4:
			*n = someConstant(r)
		case 5:
			f.Vars = append(f.Vars, []string{"", "new", "a", "A", "b_"}[r.Intn(5)])
		case 6:
			at := r.Intn(len(f.Code))
			f.Code = slices.Insert(f.Code, at, slices.Repeat([]api.FoNode{op(3)}, r.Intn(3))...)
		case 7:
			f.Code = slices.Concat(slices.Repeat([]api.FoNode{c(1, 1)}, r.Intn(13)), f.Code, slices.Repeat([]api.FoNode{op(3)}, r.Intn(13)))
		default:
			r.Shuffle(len(f.Vars), func(i, k int) { f.Vars[i], f.Vars[k] = f.Vars[k], f.Vars[i] })
			*n = f.Code[0]
		}
	}
	return f
}

// P7.1 against the definition; and P7.3 to P7.6: the error of Check comes first.
func TestChecksOfAll(t *testing.T) {
	r := rand.New(rand.NewSource(1))
	met := map[api.Errno]int{}
	for range 30000 {
		f := spoilt(r, someFormula(r, 20))
		want := plainCheck(f)
		met[want]++
		if e := formula.Check(f); e != want {
			t.Fatalf("Check of %v: %d, not %d", f, e, want)
		}
		if want == api.OK {
			continue
		}
		text, e1 := formula.Write(f)
		word, e2 := formula.Eval(f, []int{-1, 2, 3})
		ran, at, e3 := formula.Range(f, []api.Span{span(1, 0), span(0, one)})
		p, e4 := formula.Compile(f)
		if e1 != want || e2 != want || e3 != want || e4 != want {
			t.Fatalf("the errors of %v: %d, %d, %d, %d, not %d", f, e1, e2, e3, e4, want)
		}
		if text != "" || word != 0 || ran != (api.FoRange{}) || at != 0 || len(p.Store) != 0 || p.Orders != 0 || p.Start != 0 {
			t.Fatalf("with an error of %v: %q, %d, %v, %d, %v", f, text, word, ran, at, p)
		}
	}
	for _, e := range []api.Errno{api.OK, api.ErrLong, api.ErrForm, api.ErrTwice, api.ErrArg, api.ErrRange} {
		if met[e] < 100 {
			t.Errorf("the error %d occurs %d times", e, met[e])
		}
	}
}
