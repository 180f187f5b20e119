package pulse_test

import (
	"math"
	"math/rand"
	"slices"
	"testing"

	"quicksilver/api"
	"quicksilver/order"
	"quicksilver/pulse"
)

// low is the word that is the least number, Signed.
const low = api.OrWord / 2

// word is the word as which an order is written.
func word(what, from, to, next int) int {
	w, _ := order.Encode(api.OrOrder{Op: what, From: from, To: to, Next: next})
	return w
}

// begun is the state at the beginning of a program with a tape, from the address 0 on.
func begun(words []int, tape ...int) api.PuState {
	store := append(slices.Clone(words), make([]int, 128-len(words))...)
	return api.PuState{Store: store, Tape: tape}
}

// stateS and stateM are the beginnings of s and M of the chapter's examples.
func stateS() api.PuState {
	return begun([]int{0: 12583560, 8: 10569226, 10: 4278016, 12: 14909453}, 3, 4, 16777215)
}

func stateM() api.PuState { return begun([]int{8405251, 4194304, 14680064}) }

// copied is a state in memory of its own.
func copied(s api.PuState) api.PuState {
	s.Store, s.Tape, s.Printed = slices.Clone(s.Store), slices.Clone(s.Tape), slices.Clone(s.Printed)
	return s
}

// same reports whether two states are the same.
func same(a, b api.PuState) bool {
	return slices.Equal(a.Store, b.Store) && slices.Equal(a.Tape, b.Tape) && slices.Equal(a.Printed, b.Printed) &&
		a.Taken == b.Taken && a.Clock == b.Clock && a.At == b.At && a.Phase == b.Phase &&
		a.Order == b.Order && a.Operand == b.Operand && a.Other == b.Other &&
		a.Product == b.Product && a.Count == b.Count && a.Done == b.Done && a.Why == b.Why
}

// sameBits reports whether two states of pulses are the same.
func sameBits(a, b api.PuBits) bool {
	return slices.EqualFunc(a.Lines, b.Lines, slices.Equal[[]bool]) && same(a.Now, b.Now) &&
		a.Beat == b.Beat && a.Carry == b.Carry && a.Sum == b.Sum
}

// sameOrders reports whether two states of layer 4 are the same.
func sameOrders(a, b api.OrState) bool {
	return slices.Equal(a.Store, b.Store) && slices.Equal(a.Tape, b.Tape) && slices.Equal(a.Printed, b.Printed) &&
		a.Taken == b.Taken && a.Time == b.Time && a.At == b.At && a.Done == b.Done && a.Why == b.Why
}

// minors, pulsed, beats and worded are what Minors, Bits, Beats and Words return for arguments without an error.
func minors(t *testing.T, s api.PuState, many int) api.PuState {
	t.Helper()
	after, e := pulse.Minors(s, many)
	if e != api.OK {
		t.Fatalf("Minors of %v, %d: %d", s, many, e)
	}
	return after
}

func pulsed(t *testing.T, s api.PuState) api.PuBits {
	t.Helper()
	b, e := pulse.Bits(s)
	if e != api.OK {
		t.Fatalf("Bits of %v: %d", s, e)
	}
	return b
}

func beats(t *testing.T, b api.PuBits, many int) api.PuBits {
	t.Helper()
	after, e := pulse.Beats(b, many)
	if e != api.OK {
		t.Fatalf("Beats of %v, %d: %d", b, many, e)
	}
	return after
}

func worded(t *testing.T, b api.PuBits) api.PuState {
	t.Helper()
	s, e := pulse.Words(b)
	if e != api.OK {
		t.Fatalf("Words of %v: %d", b, e)
	}
	return s
}

// extremes are numbers at which arithmetic could go wrong.
func extremes() []int {
	return []int{math.MinInt, math.MinInt + 1, -1<<47 - 1, -1 << 47, -1, 0, 1, 4, 5, 12, 13, 23, 24, 127, 128, 20000, 20001, 60000, 60001, 1<<24 - 1, 1 << 24, 1000000000, 1000000001, 1<<47 - 1, 1 << 47, math.MaxInt - 1, math.MaxInt}
}

// edgeWords are words at which signs and carries change.
func edgeWords() []int {
	return []int{0, 1, 2, 3, low / 2, low - 1, low, low + 1, 5592405, 11184810, api.OrWord - 2, api.OrWord - 1}
}

// someWord returns a word: often one at an edge.
func someWord(r *rand.Rand) int {
	if r.Intn(3) == 0 {
		return edgeWords()[r.Intn(len(edgeWords()))]
	}
	return r.Intn(api.OrWord)
}

// someWords returns words.
func someWords(r *rand.Rand, many int) []int {
	words := make([]int, many)
	for i := range words {
		words[i] = someWord(r)
	}
	return words
}

// someOrder returns an order as a word; its words are often in the upper half of the store, and the next orders in the lower one.
func someOrder(r *rand.Rand, what int) int {
	if r.Intn(4) == 0 {
		return word(what, r.Intn(128), r.Intn(128), r.Intn(128))
	}
	to := 64 + r.Intn(64)
	if what == api.OrTest {
		to -= 64
	}
	return word(what, 64+r.Intn(64), to, r.Intn(64))
}

// someState returns a state without an error that has not ended, between two orders. Now and then the tape, the paper or the time is almost over.
func someState(r *rand.Rand) api.PuState {
	s := api.PuState{Store: someWords(r, 128), Tape: someWords(r, r.Intn(201)), Printed: someWords(r, r.Intn(5))}
	for i := range 64 {
		s.Store[i] = someOrder(r, 1+r.Intn(7))
		if r.Intn(40) == 0 {
			s.Store[i] = someOrder(r, api.OrHalt)
		}
	}
	s.Taken = r.Intn(len(s.Tape) + 1)
	if r.Intn(4) == 0 {
		s.Printed = someWords(r, 200-r.Intn(5))
	}
	s.Clock = r.Intn(1000)
	if r.Intn(4) == 0 {
		s.Clock = 1000000000 - r.Intn(200)
	}
	s.At, s.Done = r.Intn(64), r.Intn(s.Clock+1)
	s.Order, s.Operand, s.Other = someWord(r), someWord(r), someWord(r)
	s.Product = someProduct(r)
	return s
}

// someProduct returns a product: often one at an end of its range.
func someProduct(r *rand.Rand) int {
	switch r.Intn(4) {
	case 0:
		return -1<<47 + r.Intn(3)
	case 1:
		return 1<<47 - 1 - r.Intn(3)
	}
	return r.Intn(1<<48) - 1<<47
}

// anyPhase returns a state without an error in any phase.
func anyPhase(r *rand.Rand) api.PuState {
	for {
		s := someState(r)
		s.Phase = r.Intn(5)
		if s.Phase != api.PuFetch {
			s.Order = someOrder(r, r.Intn(8))
		}
		if s.Phase == api.PuCount || s.Phase == api.PuWrite {
			s.Order = someOrder(r, api.OrMul)
		}
		if s.Phase == api.PuCount {
			s.Count = 1 + r.Intn(12)
		}
		if plainBelongs(s) {
			return s
		}
	}
}

// someBits returns a state of pulses in any beat, which need not have come from another one.
func someBits(r *rand.Rand) api.PuBits {
	s := anyPhase(r)
	b := api.PuBits{Lines: plainLines(s.Store), Now: s}
	b.Now.Store = nil
	if r.Intn(4) > 0 {
		b.Beat = r.Intn(24)
		b.Sum = r.Intn(1 << b.Beat)
	}
	if b.Beat > 0 {
		b.Carry = r.Intn(2)
	}
	return b
}

// soon moves the clock to a few minor cycles before the word at an address comes by.
func soon(r *rand.Rand, s *api.PuState, address int) {
	for s.Clock++; s.Clock%16 != address%16; s.Clock++ {
	}
	s.Clock -= min(s.Clock, r.Intn(3))
	s.Clock = min(s.Clock, 1000000000)
	s.Done = min(s.Done, s.Clock)
}
