package formula_test

import (
	"math"
	"math/rand"
	"slices"
	"testing"

	"quicksilver/api"
	"quicksilver/formula"
)

// anyInt returns a number that is as stated now and then, and far beyond it otherwise.
func anyInt(r *rand.Rand) int {
	switch r.Intn(4) {
	case 0:
		return extremes()[r.Intn(len(extremes()))]
	case 1:
		return int(r.Uint64())
	}
	return r.Intn(12) - 2
}

// anyFormula returns a formula of any numbers.
func anyFormula(r *rand.Rand) api.FoFormula {
	f := spoilt(r, someFormula(r, 6))
	switch r.Intn(8) {
	case 0:
		f.Vars = append(f.Vars, make([]string, r.Intn(20))...)
	case 1:
		f.Code = append(f.Code, make([]api.FoNode, r.Intn(60))...)
	case 2:
		f.Code[r.Intn(len(f.Code))] = api.FoNode{Kind: anyInt(r), Var: anyInt(r), Num: anyInt(r), Places: anyInt(r)}
	case 3:
		f = api.FoFormula{}
	}
	return f
}

// anyArguments returns as many words and spans as given, or some others, and registers and steps.
func anyArguments(r *rand.Rand, many int) (words []int, spans []api.Span, regs []api.FoFloat, steps []api.FoStep) {
	if r.Intn(8) == 0 {
		many = r.Intn(12)
	}
	for range many {
		words = append(words, r.Intn(1<<24))
		spans = append(spans, span(-r.Intn(half), r.Intn(half)))
	}
	for range r.Intn(10) {
		regs = append(regs, someFloat(r))
		steps = append(steps, api.FoStep{Op: 3 + r.Intn(4), A: r.Intn(5), B: r.Intn(5), To: r.Intn(5)})
	}
	if at := r.Intn(12); at < many {
		words[at] = anyInt(r)
		spans[at] = span(anyInt(r), anyInt(r))
	}
	if at := r.Intn(20); at < len(regs) {
		regs[at] = fl(anyInt(r), anyInt(r))
		steps[at] = api.FoStep{Op: anyInt(r), A: anyInt(r), B: anyInt(r), To: anyInt(r)}
	}
	return words, spans, regs, steps
}

// P7.15 and P1: whatever the arguments, the calls come back; with an error all else is zero.
func TestAnyArguments(t *testing.T) {
	r := rand.New(rand.NewSource(12))
	for range 20000 {
		f := anyFormula(r)
		words, spans, regs, steps := anyArguments(r, len(f.Vars))
		check := formula.Check(f)
		text, e := formula.Write(f)
		if e != check || (e == api.OK) == (text == "") {
			t.Fatalf("Write of %v: %q, %d", f, text, e)
		}
		if word, e := formula.Eval(f, words); e != api.OK && word != 0 || word < 0 || word >= 1<<24 {
			t.Fatalf("Eval of %v, %v: %d, %d", f, words, word, e)
		}
		if ran, at, e := formula.Range(f, spans); e == api.OK && at != 0 || e != api.OK && ran != (api.FoRange{}) {
			t.Fatalf("Range of %v, %v: %v, %d, %d", f, spans, ran, at, e)
		}
		if p, e := formula.Compile(f); e != check || (e != api.OK) != (len(p.Store) == 0 && p.Orders == 0) || p.Start != 0 {
			t.Fatalf("Compile of %v: %v, %d", f, p, e)
		}
		if after, at, e := formula.Calc(regs, steps); e == api.OK && at != 0 || (e != api.OK) != (len(after) == 0) {
			t.Fatalf("Calc of %v, %v: %v, %d, %d", regs, steps, after, at, e)
		}
		n, exp := anyInt(r), anyInt(r)
		if x, e := formula.Float(n, exp); e != api.OK && x != fl(0, 0) {
			t.Fatalf("Float of %d, %d: %v, %d", n, exp, x, e)
		}
		bytes := make([]byte, r.Intn(30))
		r.Read(bytes)
		if g, at, e := formula.Read(string(bytes)); e == api.OK && at != 0 || (e != api.OK) != empty(g) {
			t.Fatalf("Read of %q: %v, %d, %d", bytes, g, at, e)
		}
	}
}

// roomy returns a list with room behind its end, and all of it.
func roomy[T any](list []T, rest T) (part, whole []T) {
	whole = append(slices.Clone(list), rest, rest, rest)
	return whole[:len(list)], whole
}

// spoil writes over a result, up to its capacity.
func spoil[T any](list []T, rest T) {
	list = list[:cap(list)]
	for i := range list {
		list[i] = rest
	}
}

// P7.15: arguments stay as they are, also behind their ends; and calls come to the same again, whatever becomes of their results.
func TestMemory(t *testing.T) {
	r := rand.New(rand.NewSource(13))
	for range 500 {
		before := someFormula(r, 12)
		vars, wholeVars := roomy(before.Vars, "room")
		code, wholeCode := roomy(before.Code, op(9))
		f := api.FoFormula{Vars: vars, Code: code}
		words, wholeWords := roomy(someWords(r, f), -1)
		spans, wholeSpans := roomy(someSpans(r, f, 1000), span(1, 0))
		regs, wholeRegs := roomy([]api.FoFloat{someFloat(r), someFloat(r)}, fl(1, 1))
		steps, wholeSteps := roomy([]api.FoStep{{Op: 3, A: 0, B: 1, To: 0}, {Op: 4, A: 1, B: 0, To: 1}}, api.FoStep{Op: 9})
		keptWords, keptVars := slices.Clone(wholeWords), slices.Clone(wholeVars)
		keptCode, keptSpans, keptRegs, keptSteps := slices.Clone(wholeCode), slices.Clone(wholeSpans), slices.Clone(wholeRegs), slices.Clone(wholeSteps)
		text := plainText(plainTree(before.Code), before.Vars)
		wantWord := plainWord(plainTree(before.Code), words)
		var wantAfter []api.FoFloat
		for i := range 2 {
			g := read(t, text)
			p := compiled(t, f)
			ran, _, _ := formula.Range(f, spans)
			after, _, _ := formula.Calc(regs, steps)
			if i == 0 {
				wantAfter = slices.Clone(after)
			}
			if formula.Check(f) != api.OK || !same(g, before) || write(t, f) != text || eval(t, f, words) != wantWord || !slices.Equal(p.Store, plainProgram(before)) || !slices.Equal(after, wantAfter) {
				t.Fatalf("the calls with %v come to something else", before)
			}
			if ran != (api.FoRange{}) && ran != plainRange(plainTree(before.Code), spans) {
				t.Fatalf("Range of %v, %v: %v", before, spans, ran)
			}
			spoil(g.Vars, "spoilt")
			spoil(g.Code, op(-9))
			spoil(p.Store, math.MinInt)
			spoil(after, fl(9, 9))
		}
		if !slices.Equal(wholeWords, keptWords) || !slices.Equal(wholeVars, keptVars) || !slices.Equal(wholeCode, keptCode) || !slices.Equal(wholeSpans, keptSpans) || !slices.Equal(wholeRegs, keptRegs) || !slices.Equal(wholeSteps, keptSteps) {
			t.Fatalf("arguments were changed: %v, %v, %v, %v, %v, %v", wholeWords, wholeVars, wholeCode, wholeSpans, wholeRegs, wholeSteps)
		}
	}
}
