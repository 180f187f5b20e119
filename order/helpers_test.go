package order_test

import (
	"math"
	"math/rand"
	"slices"
	"testing"

	"quicksilver/api"
	"quicksilver/order"
)

// low is the word that is the least number, Signed.
const low = api.OrWord / 2

// op is an order.
func op(what, from, to, next int) api.OrOrder {
	return api.OrOrder{Op: what, From: from, To: to, Next: next}
}

// plainWord is the word as which an order is written.
func plainWord(o api.OrOrder) int {
	return o.Op*2097152 + o.From*16384 + o.To*128 + o.Next
}

// plainSigned is a word with its sign.
func plainSigned(word int) int {
	if word < 8388608 {
		return word
	}
	return word - 16777216
}

// programP is the program P of the chapter's examples, and tapeP its tape.
func programP() []int {
	return []int{0: 12583560, 8: 10569226, 10: 4278016, 12: 14909453}
}

func tapeP() []int { return []int{3, 4, 16777215} }

// extremes are numbers at which arithmetic could go wrong.
func extremes() []int {
	return []int{math.MinInt, math.MinInt + 1, -1 << 32, -1, 0, 1, 7, 8, 127, 128, 5000, 5001, 1<<24 - 1, 1 << 24, 1000000000, 1000000001, 1 << 32, math.MaxInt - 1, math.MaxInt}
}

// edgeWords are words at which signs change, or products are extreme.
func edgeWords() []int {
	return []int{0, 1, 2, 3, low/2 - 1, low / 2, low - 1, low, low + 1, low + low/2, api.OrWord - 2, api.OrWord - 1}
}

// begun is the state with which a run of some words begins.
func begun(t *testing.T, store, tape []int, start int) api.OrState {
	t.Helper()
	s, e := order.Begin(store, tape, start)
	if e != api.OK {
		t.Fatalf("Begin: %d", e)
	}
	return s
}

// ran is what Run returns for a state without an error.
func ran(t *testing.T, s api.OrState, most int) api.OrState {
	t.Helper()
	after, e := order.Run(s, most)
	if e != api.OK {
		t.Fatalf("Run of %v: %d", s, e)
	}
	return after
}

// traced is what Trace returns for a state without an error.
func traced(t *testing.T, s api.OrState, most int) []api.OrStep {
	t.Helper()
	steps, e := order.Trace(s, most)
	if e != api.OK {
		t.Fatalf("Trace of %v: %d", s, e)
	}
	return steps
}

// same reports whether two states are the same.
func same(a, b api.OrState) bool {
	return slices.Equal(a.Store, b.Store) && slices.Equal(a.Tape, b.Tape) && slices.Equal(a.Printed, b.Printed) &&
		a.Taken == b.Taken && a.Time == b.Time && a.At == b.At && a.Done == b.Done && a.Why == b.Why
}

// copied is a state in memory of its own.
func copied(s api.OrState) api.OrState {
	s.Store, s.Tape, s.Printed = slices.Clone(s.Store), slices.Clone(s.Tape), slices.Clone(s.Printed)
	return s
}

// someWord returns a word: often one at an edge.
func someWord(r *rand.Rand) int {
	if r.Intn(3) == 0 {
		return edgeWords()[r.Intn(len(edgeWords()))]
	}
	return r.Intn(api.OrWord)
}

// someOrder returns an order that is OrHalt now and then; its addresses are below a limit.
func someOrder(r *rand.Rand, limit int) api.OrOrder {
	what := 1 + r.Intn(7)
	if r.Intn(40) == 0 {
		what = api.OrHalt
	}
	return op(what, r.Intn(limit), r.Intn(limit), r.Intn(limit))
}

// someState returns a state that has not ended. Often its orders do not work on each other, so that it runs for long; now and then the tape, the paper or the time is almost over.
func someState(r *rand.Rand) api.OrState {
	s := api.OrState{Store: make([]int, api.OrStore), Tape: make([]int, r.Intn(api.MaxOrTape+1)), At: r.Intn(api.OrStore / 2)}
	limit := api.OrStore
	if r.Intn(2) == 0 {
		limit = api.OrStore / 2
	}
	for i := range s.Store {
		s.Store[i] = someWord(r)
		if i < api.OrStore/2 {
			o := someOrder(r, limit)
			if limit < api.OrStore {
				o.From, o.To = o.From+limit, o.To+limit
			}
			if o.Op == api.OrTest {
				o.To %= limit
			}
			s.Store[i] = plainWord(o)
		}
	}
	for i := range s.Tape {
		s.Tape[i] = someWord(r)
	}
	s.Taken = r.Intn(len(s.Tape) + 1)
	s.Printed = make([]int, r.Intn(5))
	if r.Intn(4) == 0 {
		s.Printed = make([]int, api.MaxOrPrints-r.Intn(5))
	}
	for i := range s.Printed {
		s.Printed[i] = someWord(r)
	}
	cycle := r.Intn(1000)
	if r.Intn(4) == 0 {
		cycle = api.MaxOrTime - 16 - r.Intn(200)
	}
	s.Time = plainNext(cycle, s.At)
	s.Done = r.Intn(s.Time + 1)
	return s
}

// plainNext waits for the word at an address, minor cycle by minor cycle, after one of them.
func plainNext(cycle, address int) int {
	for cycle++; cycle%16 != address%16; cycle++ {
	}
	return cycle
}

// plainTimes does nothing but wait: it returns the address of the next order, and when it is taken.
func plainTimes(o api.OrOrder, time int, negative bool) (at, until int) {
	t, at := time, o.Next
	if o.Op != api.OrRead {
		t = plainNext(t, o.From)
	}
	if o.Op == api.OrTest && negative {
		at = o.To
	}
	if o.Op == api.OrMove || o.Op == api.OrAdd || o.Op == api.OrSub || o.Op == api.OrMul || o.Op == api.OrRead {
		t = plainNext(t, o.To)
	}
	if o.Op == api.OrMul {
		t = plainNext(t+12, o.To)
	}
	return at, plainNext(t, at)
}

// plainProduct is the product of two words: it is divided step by step, towards what is not above.
func plainProduct(a, b int) int {
	product := plainSigned(a) * plainSigned(b)
	rest := (product%8388608 + 8388608) % 8388608
	return plainModulo((product - rest) / 8388608)
}

// plainModulo brings a number into the range of words.
func plainModulo(n int) int { return (n%16777216 + 16777216) % 16777216 }

// plainEnd returns why the run of a state ends at its next order.
func plainEnd(s api.OrState) int {
	o := plainOrder(s.Store[s.At])
	if o.Op == 0 {
		return 1
	}
	if o.Op == 6 && s.Taken >= len(s.Tape) {
		return 2
	}
	if o.Op == 7 && len(s.Printed) >= 200 {
		return 3
	}
	if _, until := plainTimes(o, s.Time, plainSigned(s.Store[o.From]) < 0); until > 1000000000 {
		return 4
	}
	return 0
}

// plainOrder is the order that is written as a word.
func plainOrder(word int) api.OrOrder {
	return op(word/2097152, word/16384%128, word/128%128, word%128)
}

// plainStep does an order of a state that has not ended, or ends the run.
func plainStep(s api.OrState) (after api.OrState, step api.OrStep, done bool) {
	s = copied(s)
	if why := plainEnd(s); why != 0 {
		s.Why = why
		return s, step, false
	}
	o := plainOrder(s.Store[s.At])
	read, there := s.Store[o.From], s.Store[o.To]
	at, until := plainTimes(o, s.Time, plainSigned(read) < 0)
	step = api.OrStep{At: s.At, Order: o, Time: s.Time, Until: until}
	switch o.Op {
	case 1:
		s.Store[o.To] = read
	case 2:
		s.Store[o.To] = plainModulo(there + read)
	case 3:
		s.Store[o.To] = plainModulo(there - read)
	case 4:
		s.Store[o.To] = plainProduct(read, there)
	case 6:
		s.Store[o.To] = s.Tape[s.Taken]
		s.Taken++
	case 7:
		s.Printed = append(s.Printed, read)
	}
	s.At, s.Time, s.Done = at, until, s.Done+1
	return s, step, true
}

// plainRun does orders one after the other.
func plainRun(s api.OrState, most int) (after api.OrState, steps []api.OrStep) {
	for range most {
		if s.Why != 0 {
			break
		}
		next, step, done := plainStep(s)
		s = next
		if done {
			steps = append(steps, step)
		}
	}
	return s, steps
}
