package pulse_test

import (
	"math/rand"
	"testing"

	"quicksilver/api"
	"quicksilver/order"
	"quicksilver/pulse"
)

// wrong is a change after which a state is none, with what Check says of it.
type wrong struct {
	spoil    func(s *api.PuState)
	part, at int
	e        api.Errno
}

// wrongStates are changes of stateS, or of what Check does not mind.
func wrongStates() []wrong {
	list := []wrong{
		// What is too long, or too short, comes first.
		{func(s *api.PuState) { s.Store, s.Tape[0], s.Clock, s.Count = s.Store[:127], -1, -1, 1 }, 1, 0, api.ErrLong},
		{func(s *api.PuState) { s.Store = append(s.Store, 0) }, 1, 0, api.ErrLong},
		{func(s *api.PuState) { s.Store = nil }, 1, 0, api.ErrLong},
		{func(s *api.PuState) { s.Tape, s.Store[3] = make([]int, 201), -1 }, 1, 0, api.ErrLong},
		{func(s *api.PuState) { s.Printed, s.Store[3] = make([]int, 201), -1 }, 1, 0, api.ErrLong},
		// Then words, list by list.
		{func(s *api.PuState) { s.Store[127], s.Tape[0], s.Phase = api.OrWord, -1, 9 }, 2, 127, api.ErrRange},
		{func(s *api.PuState) { s.Store[7], s.Store[8] = -1, -1 }, 2, 7, api.ErrRange},
		{func(s *api.PuState) { s.Tape[2], s.Printed, s.At = -1, []int{-1}, -1 }, 3, 2, api.ErrRange},
		{func(s *api.PuState) { s.Printed, s.Why, s.Count = []int{0, api.OrWord}, 5, 1 }, 4, 1, api.ErrRange},
		// Then numbers, and at last what does not belong together.
		{func(s *api.PuState) { s.Taken = 4 }, 5, 0, api.ErrRange},
		{func(s *api.PuState) { s.Taken = -1 }, 5, 0, api.ErrRange},
		{func(s *api.PuState) { s.Clock, s.Done = 6, 7 }, 5, 0, api.ErrRange},
		{func(s *api.PuState) { s.Count, s.Why = 1, 5 }, 5, 0, api.ErrRange},
		{func(s *api.PuState) { s.Phase, s.Order, s.Other = api.PuTo, word(5, 1, 2, 3), -1 }, 5, 0, api.ErrRange},
		{func(s *api.PuState) { s.Count = 1 }, 6, 0, api.ErrArg},
		{func(s *api.PuState) { s.Count = 12 }, 6, 0, api.ErrArg},
		{func(s *api.PuState) { s.Phase, s.Order, s.Taken = api.PuTo, word(6, 1, 2, 3), 3 }, 6, 0, api.ErrArg},
		{func(s *api.PuState) { s.Phase, s.Order, s.Printed = api.PuFrom, word(7, 1, 2, 3), make([]int, 200) }, 6, 0, api.ErrArg},
		{func(s *api.PuState) { s.Phase, s.Why = api.PuFrom, api.OrHalted }, 6, 0, api.ErrArg},
	}
	for _, n := range extremes() {
		for _, c := range numbers() {
			if n < c.lo || n > c.hi {
				list = append(list, wrong{func(s *api.PuState) { *c.of(s) = n }, 5, 0, api.ErrRange})
			}
		}
	}
	return list
}

// number is a number of a state, and its range in stateS.
type number struct {
	of     func(s *api.PuState) *int
	lo, hi int
}

func numbers() []number {
	return []number{
		{func(s *api.PuState) *int { return &s.Taken }, 0, 3},
		{func(s *api.PuState) *int { return &s.Clock }, 0, 1000000000},
		{func(s *api.PuState) *int { return &s.At }, 0, 127},
		{func(s *api.PuState) *int { return &s.Phase }, 0, 4},
		{func(s *api.PuState) *int { return &s.Order }, 0, 16777215},
		{func(s *api.PuState) *int { return &s.Operand }, 0, 16777215},
		{func(s *api.PuState) *int { return &s.Other }, 0, 16777215},
		{func(s *api.PuState) *int { return &s.Product }, -1 << 47, 1<<47 - 1},
		{func(s *api.PuState) *int { return &s.Count }, 0, 12},
		{func(s *api.PuState) *int { return &s.Done }, 0, 0},
		{func(s *api.PuState) *int { return &s.Why }, 0, 4},
	}
}

// P5.1; and all functions with a state return its error first.
func TestCheck(t *testing.T) {
	for i, c := range wrongStates() {
		s := stateS()
		c.spoil(&s)
		if part, at, e := pulse.Check(s); part != c.part || at != c.at || e != c.e {
			t.Errorf("Check of the wrong state %d: %d, %d, %d, not %d, %d, %d", i, part, at, e, c.part, c.at, c.e)
		}
		for _, many := range []int{0, 1, -1, 20001} {
			if after, e := pulse.Minors(s, many); !same(after, api.PuState{}) || e != c.e {
				t.Errorf("Minors of the wrong state %d: %v, %d", i, after, e)
			}
		}
		o, e := pulse.Order(s)
		many, f := pulse.Until(s)
		b, g := pulse.Bits(s)
		if !sameOrders(o, api.OrState{}) || many != 0 || !sameBits(b, api.PuBits{}) || e != c.e || f != c.e || g != c.e {
			t.Errorf("the wrong state %d: %v, %d; %d, %d; %v, %d", i, o, e, many, f, b, g)
		}
	}
}

// P5.1: what is just as stated.
func TestCheckRight(t *testing.T) {
	for i, change := range []func(s *api.PuState){
		func(s *api.PuState) {},
		func(s *api.PuState) {
			s.Store[127], s.Tape[2], s.Printed = api.OrWord-1, api.OrWord-1, []int{api.OrWord - 1}
		},
		func(s *api.PuState) { s.Tape, s.Printed, s.Taken = make([]int, 200), make([]int, 200), 200 },
		func(s *api.PuState) { s.Tape, s.Printed = nil, []int{} },
		func(s *api.PuState) { s.Clock, s.Done = 1000000000, 1000000000 },
		func(s *api.PuState) { s.Clock, s.Done, s.At, s.Why = 5, 5, 127, api.OrLate },
		func(s *api.PuState) { s.Order, s.Operand, s.Other = api.OrWord-1, api.OrWord-1, api.OrWord-1 },
		func(s *api.PuState) { s.Order, s.Taken = word(6, 1, 2, 3), 3 },
		func(s *api.PuState) { s.Order, s.Printed = word(7, 1, 2, 3), make([]int, 200) },
		func(s *api.PuState) { s.Product = -1 << 47 },
		func(s *api.PuState) { s.Product = 1<<47 - 1 },
		func(s *api.PuState) {
			s.Phase, s.Order, s.Printed = api.PuFrom, word(7, 1, 2, 3), make([]int, 199)
		},
		func(s *api.PuState) {
			s.Phase, s.Order, s.Printed = api.PuFrom, word(5, 1, 2, 3), make([]int, 200)
		},
		func(s *api.PuState) { s.Phase, s.Order, s.Taken = api.PuTo, word(6, 1, 2, 3), 2 },
		func(s *api.PuState) { s.Phase, s.Order, s.Taken = api.PuTo, word(1, 1, 2, 3), 3 },
	} {
		s := stateS()
		change(&s)
		if part, at, e := pulse.Check(s); part != 0 || at != 0 || e != api.OK {
			t.Errorf("Check of the state %d: %d, %d, %d", i, part, at, e)
		}
	}
}

// P5.1: which orders and counts belong to which phases.
func TestCheckPhases(t *testing.T) {
	for phase := range 5 {
		for what := range 8 {
			for count := range 13 {
				for _, full := range []bool{false, true} {
					s := stateS()
					s.Phase, s.Order, s.Count = phase, word(what, 1, 2, 3), count
					if full {
						s.Taken, s.Printed = 3, make([]int, 200)
					}
					want := wrong{part: 6, e: api.ErrArg}
					if plainBelongs(s) && (count == 0) == (phase != 3) {
						want = wrong{}
					}
					if part, at, e := pulse.Check(s); part != want.part || at != 0 || e != want.e {
						t.Errorf("Check of the phase %d, %d, count %d: %d, %d, %d", phase, what, count, part, at, e)
					}
				}
			}
		}
	}
}

// P5.2: Start, with its errors.
func TestStart(t *testing.T) {
	s := api.OrState{Store: make([]int, 128), Tape: []int{3, 4}, Taken: 1, Printed: []int{5}, Time: 26, At: 10, Done: 2, Why: api.OrFull}
	s.Store[9] = 77
	want := api.PuState{Store: s.Store, Tape: s.Tape, Taken: 1, Printed: s.Printed, Clock: 26, At: 10, Done: 2, Why: api.OrFull}
	if p, e := pulse.Start(s); !same(p, want) || e != api.OK {
		t.Errorf("Start: %v, %d, not %v", p, e, want)
	}
	for i, c := range []struct {
		spoil func(s *api.OrState)
		e     api.Errno
	}{
		{func(s *api.OrState) { *s = api.OrState{} }, api.ErrLong},
		{func(s *api.OrState) { s.Tape, s.Store[0] = make([]int, 201), -1 }, api.ErrLong},
		{func(s *api.OrState) { s.Store[0] = -1 }, api.ErrRange},
		{func(s *api.OrState) { s.Printed[0] = api.OrWord }, api.ErrRange},
		{func(s *api.OrState) { s.Done = 27 }, api.ErrRange},
		{func(s *api.OrState) { s.At = 11 }, api.ErrArg},
	} {
		s := s
		s.Store, s.Tape, s.Printed = make([]int, 128), []int{3, 4}, []int{5}
		c.spoil(&s)
		if p, e := pulse.Start(s); !same(p, api.PuState{}) || e != c.e {
			t.Errorf("Start of the wrong state %d: %v, %d, not %d", i, p, e, c.e)
		}
	}
}

// P5.2: Order, with the chapter's example.
func TestOrder(t *testing.T) {
	o, e := pulse.Order(minors(t, stateS(), 6))
	if e != api.OK || o.Time != 8 || o.At != 8 || o.Done != 1 || o.Taken != 1 || o.Store[5] != 3 || o.Why != api.OrGoing {
		t.Errorf("Order: %v, %d", o, e)
	}
	for _, c := range []struct{ clock, at, time int }{
		{0, 0, 0}, {0, 1, 1}, {1, 0, 16}, {1, 112, 16}, {6, 8, 8}, {9, 8, 24}, {15, 127, 15}, {16, 15, 31}, {17, 17, 17},
		{999999985, 1, 999999985}, {999999985, 0, 1000000000}, {999999999, 127, 999999999}, {1000000000, 64, 1000000000},
	} {
		s := stateS()
		s.Clock, s.At, s.Done, s.Why, s.Printed = c.clock, c.at, c.clock/2, api.OrLate, []int{8}
		s.Order, s.Operand, s.Other, s.Product = 1, 2, 3, 4
		want := api.OrState{Store: s.Store, Tape: s.Tape, Printed: s.Printed, Time: c.time, At: c.at, Done: c.clock / 2, Why: api.OrLate}
		if o, e := pulse.Order(s); !sameOrders(o, want) || e != api.OK {
			t.Errorf("Order at %d of %d: %v, %d, not %v", c.at, c.clock, o, e, want)
		}
	}
}

// P5.2: states that are not between two orders, and too late ones.
func TestOrderDown(t *testing.T) {
	for i, change := range []func(s *api.PuState){
		func(s *api.PuState) { s.Phase, s.Order = api.PuFrom, word(5, 1, 2, 3) },
		func(s *api.PuState) { s.Phase, s.Order = api.PuTo, word(6, 1, 2, 3) },
		func(s *api.PuState) { s.Phase, s.Order, s.Count = api.PuCount, word(4, 1, 2, 3), 3 },
		func(s *api.PuState) { s.Phase, s.Order = api.PuWrite, word(4, 1, 2, 3) },
		func(s *api.PuState) { s.Clock, s.At = 1000000000, 1 },
		func(s *api.PuState) { s.Clock, s.At, s.Why = 1000000000, 15, api.OrLate },
		func(s *api.PuState) { s.Clock, s.At = 999999986, 1 },
	} {
		s := stateS()
		change(&s)
		if o, e := pulse.Order(s); !sameOrders(o, api.OrState{}) || e != api.ErrDown {
			t.Errorf("Order of the state %d: %v, %d", i, o, e)
		}
	}
}

// P5.2 against the definition, and P5.11: Order of Start is the state.
func TestStartAndOrder(t *testing.T) {
	r := rand.New(rand.NewSource(1))
	for range 2000 {
		s := someState(r)
		s.Why = r.Intn(5)
		time := s.Clock
		for time%16 != s.At%16 {
			time++
		}
		want := api.OrState{Store: s.Store, Tape: s.Tape, Taken: s.Taken, Printed: s.Printed, Time: time, At: s.At, Done: s.Done, Why: s.Why}
		o, e := pulse.Order(s)
		if time > 1000000000 {
			if !sameOrders(o, api.OrState{}) || e != api.ErrDown {
				t.Fatalf("Order of %v: %v, %d", s, o, e)
			}
			continue
		}
		if !sameOrders(o, want) || e != api.OK {
			t.Fatalf("Order of %v: %v, %d, not %v", s, o, e, want)
		}
		if _, _, e := order.Check(o); e != api.OK {
			t.Fatalf("Order of %v: %v with the error %d", s, o, e)
		}
		p, e := pulse.Start(o)
		s.Clock, s.Order, s.Operand, s.Other, s.Product = time, 0, 0, 0, 0
		if !same(p, s) || e != api.OK {
			t.Fatalf("Start of %v: %v, %d", o, p, e)
		}
		if back, e := pulse.Order(p); !sameOrders(back, o) || e != api.OK {
			t.Fatalf("Order of %v: %v, %d, not %v", p, back, e, o)
		}
	}
}
