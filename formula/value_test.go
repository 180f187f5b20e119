package formula_test

import (
	"math"
	"math/rand"
	"testing"

	"quicksilver/api"
	"quicksilver/formula"
)

// The formulas of one operation.
func sumAB() api.FoFormula { return of("a b", v(0), v(1), op(3)) }

func lessAB() api.FoFormula { return of("a b", v(0), v(1), op(4)) }

func productAB() api.FoFormula { return of("a b", v(0), v(1), op(5)) }

// P7.4, with the chapter's example.
func TestEval(t *testing.T) {
	const all = 1 << 24
	for i, x := range []struct {
		f     api.FoFormula
		words []int
		want  int
		e     api.Errno
	}{
		{exampleF(), []int{4194304, 4194304}, 5242880, api.OK},
		{sumAB(), []int{1, 2}, 3, api.OK}, {sumAB(), []int{half, half}, one, api.OK}, {sumAB(), []int{all - 1, 1}, 0, api.OK}, {sumAB(), []int{all - 1, all - 1}, all - 2, api.OK}, {sumAB(), []int{one, one}, 0, api.OK},
		{lessAB(), []int{5, 3}, 2, api.OK}, {lessAB(), []int{3, 5}, all - 2, api.OK}, {lessAB(), []int{0, one}, one, api.OK}, {lessAB(), []int{one, one - 1}, 1, api.OK}, {lessAB(), []int{0, all - 1}, 1, api.OK},
		{productAB(), []int{half, half}, half / 2, api.OK}, {productAB(), []int{half, 3}, 1, api.OK}, {productAB(), []int{half, all - 3}, all - 2, api.OK}, {productAB(), []int{all - 1, 1}, all - 1, api.OK}, {productAB(), []int{all - 1, all - 1}, 0, api.OK},
		{productAB(), []int{one, one}, one, api.OK}, {productAB(), []int{one, half}, all - half, api.OK}, {productAB(), []int{one - 1, one - 1}, one - 2, api.OK}, {productAB(), []int{one, one - 1}, one + 1, api.OK}, {productAB(), []int{one, 0}, 0, api.OK},
		{of("a", v(0)), []int{all - 1}, all - 1, api.OK}, {of("a", v(0)), []int{0}, 0, api.OK},
		{of("", c(1, 1)), nil, 838861, api.OK}, {of("", c(3, 1)), nil, 2516582, api.OK}, {of("", c(5, 1)), nil, half, api.OK}, {of("", c(0, 1)), nil, 0, api.OK}, {of("", c(999999, 6)), []int{}, 8388600, api.OK}, {of("", c(1, 6)), nil, 8, api.OK}, {of("", c(15625, 6)), nil, 131072, api.OK},
		{sumAB(), nil, 0, api.ErrArg}, {sumAB(), []int{1}, 0, api.ErrArg}, {sumAB(), []int{1, 2, 3}, 0, api.ErrArg}, {sumAB(), []int{-1}, 0, api.ErrArg}, {of("", c(1, 1)), []int{0}, 0, api.ErrArg},
		{sumAB(), []int{-1, 0}, 0, api.ErrRange}, {sumAB(), []int{0, -1}, 0, api.ErrRange}, {sumAB(), []int{0, all}, 0, api.ErrRange}, {sumAB(), []int{math.MinInt, 0}, 0, api.ErrRange}, {sumAB(), []int{0, math.MaxInt}, 0, api.ErrRange},
	} {
		if word, e := formula.Eval(x.f, x.words); word != x.want || e != x.e {
			t.Errorf("%d: Eval of %v, %v: %d, %d, not %d, %d", i, x.f, x.words, word, e, x.want, x.e)
		}
	}
}

// P7.4: the word of each constant with few places, and of many others, against the definition.
func TestConstants(t *testing.T) {
	below := 1
	for places := 1; places <= 6; places++ {
		below *= 10
		for num := 0; num < below; num += 1 + below/10000*7 {
			if places > 1 && num%10 == 0 {
				continue
			}
			n := c(num, places)
			if word := eval(t, of("", n), nil); word != plainConstant(n) {
				t.Fatalf("the word of %v: %d, not %d", n, word, plainConstant(n))
			}
		}
	}
}

// P7.4 against the definition.
func TestEvalOfAll(t *testing.T) {
	r := rand.New(rand.NewSource(4))
	for range 20000 {
		f := someFormula(r, 20)
		words := someWords(r, f)
		if got, want := eval(t, f, words), plainWord(plainTree(f.Code), words); got != want {
			t.Fatalf("Eval of %v, %v: %d, not %d", f, words, got, want)
		}
	}
}

// P7.5, with the chapter's examples.
func TestRange(t *testing.T) {
	tenth := c(1, 1)
	whole := span(-one, one-1)
	for i, x := range []struct {
		f         api.FoFormula
		spans     []api.Span
		words     api.Span
		error, at int
		e         api.Errno
	}{
		{exampleF(), []api.Span{span(0, 4194304), span(2097152, 4194304)}, span(2097152, 5242880), 2, 0, api.OK},
		{exampleF(), []api.Span{span(0, 8388607), span(0, 8388607)}, span(0, 0), 0, 6, api.FoErrOver},
		{of("a", v(0)), []api.Span{whole}, whole, 0, 0, api.OK}, {of("a", v(0)), []api.Span{span(-5, -5)}, span(-5, -5), 0, 0, api.OK},
		{of("", c(5, 1)), nil, span(half, half), 0, 0, api.OK}, {of("", tenth), nil, span(838861, 838861), 1, 0, api.OK}, {of("", c(0, 1)), []api.Span{}, span(0, 0), 0, 0, api.OK},
		{of("", tenth, tenth, op(3)), nil, span(1677722, 1677722), 2, 0, api.OK}, {of("", tenth, tenth, op(4)), nil, span(0, 0), 2, 0, api.OK}, {of("", tenth, c(5, 1), op(4)), nil, span(838861-half, 838861-half), 1, 0, api.OK},
		{sumAB(), []api.Span{span(0, half), span(-7, half-1)}, span(-7, one-1), 0, 0, api.OK}, {sumAB(), []api.Span{span(0, half), span(0, half)}, span(0, 0), 0, 2, api.FoErrOver},
		{sumAB(), []api.Span{span(-half, 0), span(-half, 0)}, span(-one, 0), 0, 0, api.OK}, {sumAB(), []api.Span{span(-half-1, 0), span(-half, 0)}, span(0, 0), 0, 2, api.FoErrOver},
		{lessAB(), []api.Span{span(0, 10), span(3, 5)}, span(-5, 7), 0, 0, api.OK}, {lessAB(), []api.Span{span(-one, 0), span(-3, 0)}, span(-one, 3), 0, 0, api.OK}, {lessAB(), []api.Span{span(-one, 0), span(0, 1)}, span(0, 0), 0, 2, api.FoErrOver}, {lessAB(), []api.Span{span(0, one-1), span(-1, 0)}, span(0, 0), 0, 2, api.FoErrOver},
		{productAB(), []api.Span{whole, span(0, one-1)}, span(-one+1, one-2), 2, 0, api.OK}, {productAB(), []api.Span{whole, span(-one, 0)}, span(0, 0), 0, 2, api.FoErrOver}, {productAB(), []api.Span{span(-one, 5), span(-one+1, one-1)}, span(-one+1, one-1), 2, 0, api.OK},
		{productAB(), []api.Span{span(-1, 1), span(1, 1)}, span(-1, 0), 2, 0, api.OK}, {productAB(), []api.Span{span(-half, half), span(-half, 1)}, span(-half/2, half/2), 2, 0, api.OK}, {productAB(), []api.Span{span(-3, -2), span(-half, -half)}, span(1, 1), 2, 0, api.OK},
		{of("a", tenth, v(0), op(5)), []api.Span{span(0, half)}, span(0, 419430), 3, 0, api.OK}, {of("a", v(0), tenth, op(5)), []api.Span{span(-one, half)}, span(-838861, 419430), 3, 0, api.OK}, {of("a", tenth, v(0), op(5)), []api.Span{span(0, 0)}, span(0, 0), 2, 0, api.OK},
		{of("a", v(0), v(0), op(3), v(0), v(0), op(5), op(4)), []api.Span{span(0, one-1)}, span(0, 0), 0, 2, api.FoErrOver}, {of("a b", v(0), v(1), v(1), op(3), op(4), v(0), op(3)), []api.Span{span(-half, half), span(-half, half-1)}, span(0, 0), 0, 4, api.FoErrOver},
		{sumAB(), nil, span(0, 0), 0, 0, api.ErrArg}, {sumAB(), []api.Span{span(one, 0)}, span(0, 0), 0, 0, api.ErrArg}, {sumAB(), []api.Span{{}, {}, span(one, 0)}, span(0, 0), 0, 0, api.ErrArg},
		{sumAB(), []api.Span{span(0, 0), span(0, one)}, span(0, 0), 0, 1, api.ErrRange}, {sumAB(), []api.Span{span(0, 0), span(-one-1, 0)}, span(0, 0), 0, 1, api.ErrRange}, {sumAB(), []api.Span{span(math.MinInt, 0), span(0, one)}, span(0, 0), 0, 0, api.ErrRange}, {sumAB(), []api.Span{span(0, math.MaxInt), span(1, 0)}, span(0, 0), 0, 0, api.ErrRange},
		{sumAB(), []api.Span{span(0, 0), span(2, 1)}, span(0, 0), 0, 1, api.ErrArg}, {sumAB(), []api.Span{span(2, 1), span(0, one)}, span(0, 0), 0, 0, api.ErrArg}, {sumAB(), []api.Span{span(0, 0), span(one, 1)}, span(0, 0), 0, 1, api.ErrRange}, {sumAB(), []api.Span{span(1, -one-1), span(2, 1)}, span(0, 0), 0, 0, api.ErrRange},
		{sumAB(), []api.Span{span(0, one-1), span(2, 1)}, span(0, 0), 0, 1, api.ErrArg}, {sumAB(), []api.Span{span(1, 1), span(one-1, one-1)}, span(0, 0), 0, 2, api.FoErrOver},
	} {
		r, at, e := formula.Range(x.f, x.spans)
		if r != (api.FoRange{Words: x.words, Error: x.error}) || at != x.at || e != x.e {
			t.Errorf("%d: Range of %v, %v: %v, %d, %d, not %v, %d, %d, %d", i, x.f, x.spans, r, at, e, x.words, x.error, x.at, x.e)
		}
	}
}

// plainOver returns the first node that can be too great, or -1. A node makes one value of the nodes from some other one on.
func plainOver(f api.FoFormula, spans []api.Span) int {
	begins := []int{}
	for i, n := range f.Code {
		first := i
		if n.Kind >= 3 {
			first = begins[len(begins)-2]
			begins = begins[:len(begins)-2]
		}
		begins = append(begins, first)
		w := plainRange(plainTree(f.Code[first:i+1]), spans).Words
		if w.Lo < -8388608 || w.Hi > 8388607 {
			return i
		}
	}
	return -1
}

// P7.5 against the definition; and P7.11: any words within the spans come to a word in the span of Range, by its error at most from what is exact.
func TestWithinBounds(t *testing.T) {
	r := rand.New(rand.NewSource(5))
	fit, over := 0, 0
	for range 6000 {
		f := someFormula(r, 1+r.Intn(20))
		spans := someSpans(r, f, 1<<(1+r.Intn(23)))
		got, at, e := formula.Range(f, spans)
		tree := plainTree(f.Code)
		if want := plainOver(f, spans); want >= 0 {
			over++
			if got != (api.FoRange{}) || at != want || e != api.FoErrOver {
				t.Fatalf("Range of %v, %v: %v, %d, %d, not the node %d", f, spans, got, at, e, want)
			}
			continue
		}
		fit++
		if want := plainRange(tree, spans); got != want || at != 0 || e != api.OK {
			t.Fatalf("Range of %v, %v: %v, %d, %d, not %v", f, spans, got, at, e, want)
		}
		for range 30 {
			wordsWithin(t, r, f, tree, spans, got)
		}
	}
	if fit < 1000 || over < 500 {
		t.Errorf("%d formulas fit, %d do not", fit, over)
	}
}

// wordsWithin fails if some words within the spans come to a word that is not within the range of a formula.
func wordsWithin(t *testing.T, r *rand.Rand, f api.FoFormula, x *tree, spans []api.Span, bounds api.FoRange) {
	t.Helper()
	signed, words := make([]int, len(spans)), make([]int, len(spans))
	for i, s := range spans {
		signed[i] = []int{s.Lo, s.Hi, s.Lo + r.Intn(s.Hi-s.Lo+1)}[r.Intn(3)]
		words[i] = plainModulo(signed[i])
	}
	word := plainSigned(eval(t, f, words))
	off := rat(2*word, 1)
	exact := plainExact(x, signed)
	off.Sub(off, exact.Mul(exact, rat(2, 1)))
	if word < bounds.Words.Lo || word > bounds.Words.Hi || off.Abs(off).Cmp(rat(bounds.Error, 1)) > 0 {
		t.Fatalf("Eval of %v, %v: %d, off by %v; the range is %v", f, words, word, off, bounds)
	}
}

// P7.11 for all words of small spans.
func TestAllWithinBounds(t *testing.T) {
	for _, text := range []string{"a*b", "a*b-a", "a*(b-0.3)*b", "(a+b)*(a-b)", "0.7*a*b", "a*a*a+b*0.9"} {
		f := read(t, text)
		x := plainTree(f.Code)
		for _, near := range []int{0, half - 3, -half, 2900000} {
			spans := []api.Span{span(near-9, near+9), span(-9, 9)}
			bounds, _, e := formula.Range(f, spans)
			least, most := bounds.Words.Hi, bounds.Words.Lo
			for a := near - 9; a <= near+9; a++ {
				for b := -9; b <= 9; b++ {
					wordsWithin(t, rand.New(rand.NewSource(0)), f, x, []api.Span{span(a, a), span(b, b)}, bounds)
					word := plainSigned(eval(t, f, []int{plainModulo(a), plainModulo(b)}))
					least, most = min(least, word), max(most, word)
				}
			}
			if e != api.OK || text == "a*b" && bounds.Words != span(least, most) {
				t.Errorf("Range of %s near %d: %v, %d; the words are from %d to %d", text, near, bounds, e, least, most)
			}
		}
	}
}

// P7.12: with narrower spans nothing is greater.
func TestNarrower(t *testing.T) {
	r := rand.New(rand.NewSource(6))
	compared := 0
	for range 20000 {
		f := someFormula(r, 1+r.Intn(12))
		wide := someSpans(r, f, 1<<(1+r.Intn(23)))
		narrow := make([]api.Span, len(wide))
		for i, s := range wide {
			lo := s.Lo + r.Intn(s.Hi-s.Lo+1)
			narrow[i] = span(lo, lo+r.Intn(s.Hi-lo+1))
		}
		a, _, e := formula.Range(f, wide)
		if e != api.OK {
			continue
		}
		compared++
		b, _, e := formula.Range(f, narrow)
		if e != api.OK || b.Error > a.Error || b.Words.Lo < a.Words.Lo || b.Words.Hi > a.Words.Hi {
			t.Fatalf("Range of %v, %v: %v; of %v: %v, %d", f, wide, a, narrow, b, e)
		}
	}
	if compared < 3000 {
		t.Errorf("%d ranges were compared", compared)
	}
}
