package formula_test

import (
	"math"
	"math/rand"
	"slices"
	"strings"
	"testing"

	"quicksilver/api"
	"quicksilver/formula"
)

const (
	half = api.FoOne / 2
	one  = api.FoOne
)

// v, c and op are nodes.
func v(i int) api.FoNode { return api.FoNode{Kind: api.FoVar, Var: i} }

func c(num, places int) api.FoNode { return api.FoNode{Kind: api.FoConst, Num: num, Places: places} }

func op(kind int) api.FoNode { return api.FoNode{Kind: kind} }

// of is a formula with names that are given as one string.
func of(names string, code ...api.FoNode) api.FoFormula {
	return api.FoFormula{Vars: strings.Fields(names), Code: code}
}

// exampleF is F of the chapter's examples.
func exampleF() api.FoFormula {
	return of("a b", v(0), v(1), c(25, 2), op(4), op(5), v(1), op(3))
}

func span(lo, hi int) api.Span { return api.Span{Lo: lo, Hi: hi} }

// tower is a formula whose pile has so many values at once.
func tower(many int) api.FoFormula {
	code := slices.Repeat([]api.FoNode{c(1, 1)}, many)
	return of("", append(code, slices.Repeat([]api.FoNode{op(3)}, many-1)...)...)
}

// extremes are numbers at which arithmetic could go wrong.
func extremes() []int {
	return []int{
		math.MinInt, math.MinInt + 1, -1 << 46, -1 << 32, -1 << 24, -one - 1, -one, -half, -65, -64, -1, 0, 1, 2, 3, 6, 7, 8, 9,
		63, 64, half - 1, half, one - 1, one, 1<<24 - 1, 1 << 24, 1 << 32, 1 << 46, 1 << 62, math.MaxInt - 1, math.MaxInt,
	}
}

// copied is a formula in memory of its own.
func copied(f api.FoFormula) api.FoFormula {
	return api.FoFormula{Vars: slices.Clone(f.Vars), Code: slices.Clone(f.Code)}
}

// same reports whether two formulas are the same.
func same(f, g api.FoFormula) bool {
	return slices.Equal(f.Vars, g.Vars) && slices.Equal(f.Code, g.Code)
}

// empty reports whether a formula is the zero value.
func empty(f api.FoFormula) bool { return same(f, api.FoFormula{}) }

// someFormula returns a formula with at most so many variables and constants.
func someFormula(r *rand.Rand, most int) api.FoFormula {
	for {
		f := numbered(someCode(r, 1+r.Intn(most), 1+r.Intn(8)), someNames(r))
		if plainDeepest(f.Code) <= 12 {
			return f
		}
	}
}

// someCode returns nodes that make so many variables and constants into one value.
func someCode(r *rand.Rand, leaves, vars int) []api.FoNode {
	if leaves > 1 {
		left := 1 + r.Intn(leaves-1)
		code := append(someCode(r, left, vars), someCode(r, leaves-left, vars)...)
		return append(code, op(3+r.Intn(3)))
	}
	if r.Intn(3) > 0 {
		return []api.FoNode{v(r.Intn(vars))}
	}
	return []api.FoNode{someConstant(r)}
}

// someConstant returns a constant.
func someConstant(r *rand.Rand) api.FoNode {
	if r.Intn(5) == 0 {
		return []api.FoNode{c(0, 1), c(5, 1), c(9, 1), c(1, 6), c(999999, 6), c(1, 2), c(25, 2), c(15625, 6)}[r.Intn(8)]
	}
	places, below := 1+r.Intn(6), 1
	for range places {
		below *= 10
	}
	num := r.Intn(below)
	if places > 1 && num%10 == 0 {
		num++
	}
	return c(num, places)
}

// someNames returns ten names.
func someNames(r *rand.Rand) []string {
	all := []string{"a", "b", "x_1", "z9", "a_b", "a__b", "abcdefghijklmnopqrst", "q0", "v" + strings.Repeat("_", 18) + "v", "w" + strings.Repeat("0", 19)}
	r.Shuffle(len(all), func(i, k int) { all[i], all[k] = all[k], all[i] })
	return all
}

// numbered returns a formula of nodes, with their variables numbered as they have to be.
func numbered(code []api.FoNode, names []string) api.FoFormula {
	f := api.FoFormula{Code: slices.Clone(code)}
	for i, n := range f.Code {
		if n.Kind == 1 {
			name := names[n.Var]
			if !slices.Contains(f.Vars, name) {
				f.Vars = append(f.Vars, name)
			}
			f.Code[i].Var = slices.Index(f.Vars, name)
		}
	}
	return f
}

// someWords returns words for the variables of a formula.
func someWords(r *rand.Rand, f api.FoFormula) []int {
	words := make([]int, len(f.Vars))
	for i := range words {
		words[i] = r.Intn(1 << 24)
		if r.Intn(4) == 0 {
			words[i] = []int{0, 1, half, one - 1, one, one + 1, 1<<24 - half, 1<<24 - 1}[r.Intn(8)]
		}
	}
	return words
}

// someSpans returns spans for the variables of a formula, with numbers of at most this size.
func someSpans(r *rand.Rand, f api.FoFormula, size int) []api.Span {
	spans := make([]api.Span, len(f.Vars))
	for i := range spans {
		a, b := r.Intn(2*size)-size, r.Intn(2*size)-size
		switch r.Intn(6) {
		case 0:
			a = -size
		case 1:
			b = size - 1
		case 2:
			a = b
		}
		spans[i] = span(min(a, b), max(a, b))
	}
	return spans
}

// read, write, eval and compiled are what the functions return for arguments without an error.
func read(t *testing.T, text string) api.FoFormula {
	t.Helper()
	f, at, e := formula.Read(text)
	if at != 0 || e != api.OK {
		t.Fatalf("Read of %q: %d, %d", text, at, e)
	}
	return f
}

func write(t *testing.T, f api.FoFormula) string {
	t.Helper()
	text, e := formula.Write(f)
	if e != api.OK {
		t.Fatalf("Write of %v: %d", f, e)
	}
	return text
}

func eval(t *testing.T, f api.FoFormula, words []int) int {
	t.Helper()
	word, e := formula.Eval(f, words)
	if e != api.OK {
		t.Fatalf("Eval of %v, %v: %d", f, words, e)
	}
	return word
}

func compiled(t *testing.T, f api.FoFormula) api.FoProgram {
	t.Helper()
	p, e := formula.Compile(f)
	if e != api.OK {
		t.Fatalf("Compile of %v: %d", f, e)
	}
	return p
}
