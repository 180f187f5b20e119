package order_test

import (
	"testing"

	"quicksilver/api"
	"quicksilver/order"
)

// change changes a state.
type change func(s *api.OrState)

// wrongStates are changes that spoil a state of P; several of them have more than one error, of which the first one counts.
func wrongStates() []struct {
	spoil    change
	part, at int
	e        api.Errno
} {
	return []struct {
		spoil    change
		part, at int
		e        api.Errno
	}{
		{func(s *api.OrState) { s.Store = nil }, 1, 0, api.ErrLong},
		{func(s *api.OrState) { s.Store = s.Store[:127] }, 1, 0, api.ErrLong},
		{func(s *api.OrState) { s.Store = append(s.Store, 0) }, 1, 0, api.ErrLong},
		{func(s *api.OrState) { s.Tape = make([]int, 201) }, 1, 0, api.ErrLong},
		{func(s *api.OrState) { s.Printed = make([]int, 201) }, 1, 0, api.ErrLong},
		{func(s *api.OrState) { s.Store[3], s.Printed = -1, make([]int, 201) }, 1, 0, api.ErrLong},
		{func(s *api.OrState) { s.Store[0] = -1 }, 2, 0, api.ErrRange},
		{func(s *api.OrState) { s.Store[127] = api.OrWord }, 2, 127, api.ErrRange},
		{func(s *api.OrState) { s.Store[9], s.Store[8] = -1, api.OrWord }, 2, 8, api.ErrRange},
		{func(s *api.OrState) { s.Store[20], s.Tape[0] = -1, -1 }, 2, 20, api.ErrRange},
		{func(s *api.OrState) { s.Tape[0] = -1 }, 3, 0, api.ErrRange},
		{func(s *api.OrState) { s.Tape[2] = api.OrWord }, 3, 2, api.ErrRange},
		{func(s *api.OrState) { s.Tape[1], s.Printed = -1, []int{-1} }, 3, 1, api.ErrRange},
		{func(s *api.OrState) { s.Printed = []int{-1} }, 4, 0, api.ErrRange},
		{func(s *api.OrState) { s.Printed, s.Taken = []int{0, 0, api.OrWord}, -1 }, 4, 2, api.ErrRange},
		{func(s *api.OrState) { s.Taken = -1 }, 5, 0, api.ErrRange},
		{func(s *api.OrState) { s.Taken = 4 }, 5, 0, api.ErrRange},
		{func(s *api.OrState) { s.Tape, s.Taken = nil, 1 }, 5, 0, api.ErrRange},
		{func(s *api.OrState) { s.Time = -16 }, 5, 0, api.ErrRange},
		{func(s *api.OrState) { s.Time = api.MaxOrTime + 16 }, 5, 0, api.ErrRange},
		{func(s *api.OrState) { s.At = -16 }, 5, 0, api.ErrRange},
		{func(s *api.OrState) { s.At = 128 }, 5, 0, api.ErrRange},
		{func(s *api.OrState) { s.Done = -1 }, 5, 0, api.ErrRange},
		{func(s *api.OrState) { s.Done = 1 }, 5, 0, api.ErrRange},
		{func(s *api.OrState) { s.Done, s.Time = 17, 16 }, 5, 0, api.ErrRange},
		{func(s *api.OrState) { s.Why = -1 }, 5, 0, api.ErrRange},
		{func(s *api.OrState) { s.Why = 5 }, 5, 0, api.ErrRange},
		{func(s *api.OrState) { s.Why, s.Time = 5, 1 }, 5, 0, api.ErrRange},
		{func(s *api.OrState) { s.Time = 1 }, 6, 0, api.ErrArg},
		{func(s *api.OrState) { s.At = 1 }, 6, 0, api.ErrArg},
		{func(s *api.OrState) { s.Time, s.At = 17, 114 }, 6, 0, api.ErrArg},
	}
}

// rightStates are changes after which a state of P is still one.
func rightStates() []change {
	return []change{
		func(s *api.OrState) {},
		func(s *api.OrState) {
			s.Store[127], s.Tape[0], s.Printed = api.OrWord-1, api.OrWord-1, []int{api.OrWord - 1}
		},
		func(s *api.OrState) { s.Tape, s.Printed, s.Taken = make([]int, 200), make([]int, 200), 200 },
		func(s *api.OrState) { s.Tape, s.Printed = nil, []int{} },
		func(s *api.OrState) { s.Taken = 3 },
		func(s *api.OrState) { s.Time, s.Done = api.MaxOrTime, api.MaxOrTime },
		func(s *api.OrState) { s.At, s.Time, s.Done = 127, 15, 15 },
		func(s *api.OrState) { s.At = 112 },
		func(s *api.OrState) { s.Why = api.OrLate },
	}
}

// P4.3, and P4.5: the error of Check comes before that of most.
func TestCheck(t *testing.T) {
	for i, c := range wrongStates() {
		s := begun(t, programP(), tapeP(), 0)
		c.spoil(&s)
		if part, at, e := order.Check(s); part != c.part || at != c.at || e != c.e {
			t.Errorf("Check of the wrong state %d: %d, %d, %d, not %d, %d, %d", i, part, at, e, c.part, c.at, c.e)
		}
		for _, most := range []int{0, 1, -1, 5001} {
			after, e := order.Run(s, most)
			steps, f := order.Trace(s, most)
			if !same(after, api.OrState{}) || e != c.e || len(steps) != 0 || f != c.e {
				t.Errorf("Run and Trace of the wrong state %d, %d orders: %v, %d; %v, %d", i, most, after, e, steps, f)
			}
		}
	}
	for i, c := range rightStates() {
		s := begun(t, programP(), tapeP(), 0)
		c(&s)
		if part, at, e := order.Check(s); part != 0 || at != 0 || e != api.OK {
			t.Errorf("Check of the state %d: %d, %d, %d", i, part, at, e)
		}
		ran(t, s, 9)
		traced(t, s, 9)
	}
}

// P4.4
func TestBegin(t *testing.T) {
	full := make([]int, 128)
	for i := range full {
		full[i] = api.OrWord - 1 - i
	}
	for _, words := range [][]int{nil, {}, {5}, programP(), full[:127], full} {
		for _, tape := range [][]int{nil, {}, {api.OrWord - 1}, tapeP(), make([]int, 200)} {
			for start := range api.OrStore {
				s, e := order.Begin(words, tape, start)
				want := api.OrState{Store: append(append([]int(nil), words...), make([]int, 128-len(words))...), Tape: tape, At: start, Time: start % 16}
				if !same(s, want) || e != api.OK {
					t.Fatalf("Begin of %v, %v from %d: %v, %d", words, tape, start, s, e)
				}
			}
		}
	}
}

// P4.4: what is too long is named before numbers.
func TestBeginErrors(t *testing.T) {
	for _, c := range []struct {
		store, tape []int
		start       int
		e           api.Errno
	}{
		{make([]int, 129), nil, 0, api.ErrLong},
		{nil, make([]int, 201), 0, api.ErrLong},
		{make([]int, 129), []int{-1}, -1, api.ErrLong},
		{[]int{-1}, make([]int, 201), -1, api.ErrLong},
		{[]int{-1}, nil, 0, api.ErrRange},
		{[]int{0, 0, api.OrWord}, nil, 0, api.ErrRange},
		{nil, []int{-1}, 0, api.ErrRange},
		{nil, []int{0, 0, api.OrWord}, 0, api.ErrRange},
		{nil, nil, -1, api.ErrRange},
		{nil, nil, 128, api.ErrRange},
	} {
		if s, e := order.Begin(c.store, c.tape, c.start); !same(s, api.OrState{}) || e != c.e {
			t.Errorf("Begin of %v, %v from %d: %v, %d, not %d", c.store, c.tape, c.start, s, e, c.e)
		}
	}
}
