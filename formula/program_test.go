package formula_test

import (
	"math/rand"
	"slices"
	"strings"
	"testing"

	"quicksilver/api"
	"quicksilver/order"
)

// P7.6, with the chapter's example.
func TestCompile(t *testing.T) {
	for _, x := range []struct {
		f      api.FoFormula
		orders []api.OrOrder
		cells  []int
	}{
		{exampleF(), []api.OrOrder{
			{Op: 6, To: 11, Next: 1}, {Op: 6, To: 12, Next: 2},
			{Op: 1, From: 11, To: 14, Next: 3}, {Op: 1, From: 12, To: 15, Next: 4}, {Op: 1, From: 13, To: 16, Next: 5}, {Op: 3, From: 16, To: 15, Next: 6}, {Op: 4, From: 15, To: 14, Next: 7}, {Op: 1, From: 12, To: 15, Next: 8}, {Op: 2, From: 15, To: 14, Next: 9},
			{Op: 7, From: 14, Next: 10}, {},
		}, []int{0, 0, 2097152, 0, 0, 0}},
		{of("a", v(0)), []api.OrOrder{{Op: 6, To: 4, Next: 1}, {Op: 1, From: 4, To: 5, Next: 2}, {Op: 7, From: 5, Next: 3}, {}}, []int{0, 0}},
		{of("", c(0, 1)), []api.OrOrder{{Op: 1, From: 3, To: 4, Next: 1}, {Op: 7, From: 4, Next: 2}, {}}, []int{0, 0}},
		{of("", c(5, 1), c(5, 1), op(5), c(1, 1), op(4)), []api.OrOrder{
			{Op: 1, From: 7, To: 10, Next: 1}, {Op: 1, From: 8, To: 11, Next: 2}, {Op: 4, From: 11, To: 10, Next: 3}, {Op: 1, From: 9, To: 11, Next: 4}, {Op: 3, From: 11, To: 10, Next: 5}, {Op: 7, From: 10, Next: 6}, {},
		}, []int{half, half, 838861, 0, 0}},
	} {
		p := compiled(t, x.f)
		if p.Start != 0 || p.Orders != len(x.orders) || !slices.Equal(p.Store[p.Orders:], x.cells) {
			t.Errorf("Compile of %v: %v", x.f, p)
		}
		for i, want := range x.orders {
			if o, e := order.Decode(p.Store[i]); o != want || e != api.OK {
				t.Errorf("Compile of %v: the order %d is %v, not %v", x.f, i, o, want)
			}
		}
	}
}

// plainProgram returns the words of the program of a formula.
func plainProgram(f api.FoFormula) []int {
	word := func(what, from, to, next int) int { return ((what*128+from)*128+to)*128 + next }
	variables := len(f.Vars) + len(f.Code) + 2
	constants := variables + len(f.Vars)
	bottom, used := constants, 0
	for _, n := range f.Code {
		if n.Kind == 2 {
			bottom++
		}
	}
	var words, cells, top []int
	for i := range f.Vars {
		words = append(words, word(6, 0, variables+i, i+1))
	}
	for _, n := range f.Code {
		next := len(words) + 1
		switch n.Kind {
		case 1, 2:
			from := variables + n.Var
			if n.Kind == 2 {
				from = constants + used
				used++
				cells = append(cells, plainConstant(n))
			}
			to := bottom + len(top)
			top = append(top, to)
			words = append(words, word(1, from, to, next))
		default:
			second, first := top[len(top)-1], top[len(top)-2]
			top = top[:len(top)-1]
			words = append(words, word(n.Kind-1, second, first, next))
		}
	}
	words = append(words, word(7, bottom, 0, len(words)+1), 0)
	words = append(words, make([]int, len(f.Vars))...)
	words = append(words, cells...)
	return append(words, make([]int, plainDeepest(f.Code))...)
}

// P7.6 against the definition; and P7.10, P2: what is compiled runs as it is evaluated.
func TestCompiledRuns(t *testing.T) {
	r := rand.New(rand.NewSource(7))
	for range 5000 {
		f := someFormula(r, 20)
		p := compiled(t, f)
		if want := plainProgram(f); !slices.Equal(p.Store, want) || p.Start != 0 || p.Orders != len(f.Vars)+len(f.Code)+2 {
			t.Fatalf("Compile of %v: %v, not %v", f, p, want)
		}
		words := someWords(r, f)
		prints(t, p, words, eval(t, f, words))
	}
}

// prints fails if a program with these words on its tape does not print one word, and halts after all orders but the last one.
func prints(t *testing.T, p api.FoProgram, tape []int, want int) {
	t.Helper()
	s, e := order.Begin(p.Store, tape, p.Start)
	if e != api.OK {
		t.Fatalf("Begin of %v: %d", p, e)
	}
	s, e = order.Run(s, 1000)
	if e != api.OK || s.Why != api.OrHalted || s.Done != p.Orders-1 || !slices.Equal(s.Printed, []int{want}) || s.Taken != len(tape) {
		t.Fatalf("Run of %v: %v, %d; it should print %d", p, s, e, want)
	}
}

// P7.6: the greatest programs of all are below OrStore words.
func TestGreatestPrograms(t *testing.T) {
	text := strings.Repeat("a+(", 11) + "a" + strings.Repeat(")", 11) + "+b+c+d+e+f+g+h+0.1"
	p := compiled(t, read(t, text))
	prints(t, p, []int{1, 2, 3, 4, 5, 6, 7, 8}, 12+2+3+4+5+6+7+8+838861)
	code := slices.Concat(tower(12).Code, slices.Repeat([]api.FoNode{c(1, 6), op(3)}, 8))
	p = compiled(t, of("", code...))
	prints(t, p, nil, 12*838861+8*8)
	if len(p.Store) != 39+2+20+12 || len(p.Store) >= api.OrStore {
		t.Errorf("the Store has %d words", len(p.Store))
	}
}
