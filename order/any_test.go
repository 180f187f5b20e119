package order_test

import (
	"math"
	"math/rand"
	"reflect"
	"slices"
	"testing"

	"quicksilver/api"
	"quicksilver/order"
)

// anyInt returns a number that is as stated now and then, and far beyond it otherwise.
func anyInt(r *rand.Rand) int {
	switch r.Intn(4) {
	case 0:
		return extremes()[r.Intn(len(extremes()))]
	case 1:
		return int(r.Uint64())
	}
	return r.Intn(140) - 4
}

// anyInts returns numbers, of which some are no words.
func anyInts(r *rand.Rand, most int) []int {
	list := make([]int, r.Intn(most))
	if r.Intn(2) == 0 && len(list) > 0 {
		list[r.Intn(len(list))] = anyInt(r)
	}
	return list
}

// anyState returns a state of which some numbers are not as stated.
func anyState(r *rand.Rand) api.OrState {
	s := someState(r)
	for range r.Intn(3) {
		switch r.Intn(8) {
		case 0:
			s.Store = anyInts(r, 131)
		case 1:
			s.Tape = anyInts(r, 203)
		case 2:
			s.Printed = anyInts(r, 203)
		case 3:
			s.Taken = anyInt(r)
		case 4:
			s.Time = anyInt(r)
		case 5:
			s.At = anyInt(r)
		case 6:
			s.Done = anyInt(r)
		default:
			s.Why = anyInt(r)
		}
	}
	return s
}

// zero fails if there is an error, and a result is not zero.
func zero(t *testing.T, call string, e api.Errno, results ...any) {
	t.Helper()
	for _, x := range results {
		if e != api.OK && !reflect.ValueOf(x).IsZero() {
			t.Fatalf("%s with the error %d: %v", call, e, results)
		}
	}
}

// P4.13 and P1: whatever the arguments, the calls come back, and with an error all else is zero. What comes back without one is a state again.
func TestAnyArguments(t *testing.T) {
	r := rand.New(rand.NewSource(9))
	for range 10000 {
		o := op(anyInt(r), anyInt(r), anyInt(r), anyInt(r))
		word, e := order.Encode(o)
		zero(t, "Encode", e, word)
		o, e = order.Decode(anyInt(r))
		zero(t, "Decode", e, o)
		word, e = order.Signed(anyInt(r))
		zero(t, "Signed", e, word)
		at, until, e := order.When(op(anyInt(r), r.Intn(128), r.Intn(128), anyInt(r)), anyInt(r), r.Intn(2) == 0)
		zero(t, "When", e, at, until)
		s, e := order.Begin(anyInts(r, 131), anyInts(r, 203), anyInt(r))
		zero(t, "Begin", e, s)
		for _, s := range []api.OrState{s, anyState(r)} {
			_, _, wrong := order.Check(s)
			after, e := order.Run(s, r.Intn(40))
			zero(t, "Run", e, after)
			if e != wrong {
				t.Fatalf("Run of %v: %d, not %d", s, e, wrong)
			}
			if part, at, f := order.Check(after); e == api.OK && f != api.OK {
				t.Fatalf("Run of %v: %v with the error %d, %d, %d", s, after, part, at, f)
			}
			after, e = order.Run(s, anyInt(r))
			zero(t, "Run", e, after)
			steps, e := order.Trace(s, anyInt(r))
			zero(t, "Trace", e, steps)
		}
	}
}

// roomy returns a list with room behind its end, and all of it.
func roomy(list []int) (part, whole []int) {
	whole = append(slices.Clone(list), 7, 7, 7, 7)
	return whole[:len(list)], whole
}

// spoil writes over a result, up to its capacity.
func spoil(lists ...[]int) {
	for _, list := range lists {
		list = list[:cap(list)]
		for i := range list {
			list[i] = math.MinInt
		}
	}
}

// P4.13: arguments stay as they are, also behind their ends, and results have memory of their own.
func TestMemory(t *testing.T) {
	r := rand.New(rand.NewSource(10))
	for range 500 {
		s := someState(r)
		s.Why = r.Intn(8) / 7
		plain, most := copied(s), r.Intn(30)
		var wholes [3][]int
		s.Store, wholes[0] = roomy(s.Store)
		s.Tape, wholes[1] = roomy(s.Tape)
		s.Printed, wholes[2] = roomy(s.Printed)
		before := [3][]int{slices.Clone(wholes[0]), slices.Clone(wholes[1]), slices.Clone(wholes[2])}
		want, wantSteps := plainRun(plain, most)
		for range 2 {
			order.Check(s)
			fresh := begun(t, s.Store, s.Tape, s.At)
			after, steps := ran(t, s, most), traced(t, s, most)
			if !same(after, want) || !slices.Equal(steps, wantSteps) {
				t.Fatalf("Run of %v: %v, not %v", plain, after, want)
			}
			if spoil(fresh.Store); !slices.Equal(fresh.Tape, plain.Tape) {
				t.Fatalf("the store and the tape of %v share memory", plain)
			}
			if spoil(after.Printed); !slices.Equal(after.Store, want.Store) || !slices.Equal(after.Tape, want.Tape) {
				t.Fatalf("the paper and other parts of %v share memory", plain)
			}
			if spoil(after.Tape); !slices.Equal(after.Store, want.Store) {
				t.Fatalf("the tape and the store of %v share memory", plain)
			}
			spoil(fresh.Tape, after.Store)
		}
		for i := range wholes {
			if !slices.Equal(wholes[i], before[i]) || !same(s, plain) {
				t.Fatalf("arguments were changed: %v, not %v", wholes[i], before[i])
			}
		}
	}
}
