package order_test

import (
	"math/rand"
	"slices"
	"testing"

	"quicksilver/api"
	"quicksilver/order"
)

// written is orders as words, and then other words.
func written(orders []api.OrOrder, others ...int) (words []int) {
	for _, o := range orders {
		words = append(words, plainWord(o))
	}
	return append(words, others...)
}

// P4.5, with the chapter's examples.
func TestRunP(t *testing.T) {
	s := begun(t, programP(), tapeP(), 0)
	steps := traced(t, s, 3)
	if !slices.Equal(steps, []api.OrStep{{At: 0, Order: op(6, 0, 5, 8), Time: 0, Until: 8}, {At: 8, Order: op(5, 5, 12, 10), Time: 8, Until: 26}, {At: 10, Order: op(2, 5, 14, 0), Time: 26, Until: 48}}) {
		t.Errorf("Trace of three orders: %v", steps)
	}
	end := api.OrState{Store: s.Store, Tape: tapeP(), Taken: 3, Printed: []int{7}, Time: 141, At: 13, Done: 9, Why: api.OrHalted}
	end.Store = slices.Clone(s.Store)
	end.Store[5], end.Store[14] = 16777215, 7
	if after := ran(t, s, 100); !same(after, end) {
		t.Errorf("Run of 100 orders: %v, not %v", after, end)
	}
	steps = traced(t, s, 100)
	if len(steps) != 9 || steps[8] != (api.OrStep{At: 12, Order: op(7, 14, 0, 13), Time: 124, Until: 141}) {
		t.Errorf("Trace of 100 orders: %v", steps)
	}
	// The end is noticed at the order that cannot be done.
	end.Why = api.OrGoing
	if after := ran(t, s, 9); !same(after, end) {
		t.Errorf("Run of 9 orders: %v, not %v", after, end)
	}
	if after := ran(t, s, 0); !same(after, s) || len(traced(t, s, 0)) != 0 {
		t.Errorf("Run of no order: %v", after)
	}
	s.Tape = []int{3}
	if after := ran(t, s, 100); after.Printed != nil || after.Done != 3 || after.At != 0 || after.Time != 48 || after.Why != api.OrNoTape || after.Store[14] != 3 || after.Taken != 1 {
		t.Errorf("Run with a short tape: %v", after)
	}
}

// P4.5: how many orders there can be.
func TestMost(t *testing.T) {
	s := begun(t, written([]api.OrOrder{op(5, 0, 0, 0)}), nil, 0)
	for _, most := range []int{0, 1, 4999, 5000} {
		after, steps := ran(t, s, most), traced(t, s, most)
		if after.Done != most || after.Time != 32*most || after.Why != api.OrGoing || len(steps) != most {
			t.Errorf("%d orders: %d done until %d, %d; %d steps", most, after.Done, after.Time, after.Why, len(steps))
		}
	}
	for _, most := range extremes() {
		if most >= 0 && most <= 5000 {
			continue
		}
		after, e := order.Run(s, most)
		steps, f := order.Trace(s, most)
		if !same(after, api.OrState{}) || e != api.ErrRange || len(steps) != 0 || f != api.ErrRange {
			t.Errorf("%d orders: %v, %d; %v, %d", most, after, e, steps, f)
		}
	}
}

// P4.5: what an order does to the store, also if it works on one word, or on itself.
func TestOrders(t *testing.T) {
	for _, c := range []struct {
		o             api.OrOrder
		from, to, end int
	}{
		{op(1, 4, 5, 1), 7, 9, 7},
		{op(2, 4, 5, 1), 7, 9, 16},
		{op(2, 4, 5, 1), 16777215, 9, 8},
		{op(2, 4, 5, 1), 8388608, 8388608, 0},
		{op(3, 4, 5, 1), 7, 9, 2},
		{op(3, 4, 5, 1), 9, 7, 16777214},
		{op(3, 4, 5, 1), 8388608, 0, 8388608},
		{op(4, 4, 5, 1), 4194304, 14680064, 15728640},
		{op(4, 4, 5, 1), 1, 16777215, 16777215},
		{op(4, 4, 5, 1), 8388608, 8388608, 8388608},
		{op(4, 4, 5, 1), 8388607, 8388607, 8388606},
		{op(6, 4, 5, 1), 7, 9, 42},
		{op(7, 4, 5, 1), 7, 9, 9},
		{op(5, 4, 5, 1), 7, 9, 9},
		{op(5, 4, 5, 1), 16777215, 9, 9},
		{op(1, 5, 5, 1), 7, 9, 9},
		{op(2, 5, 5, 1), 7, 9, 18},
		{op(3, 5, 5, 1), 7, 9, 0},
		{op(4, 5, 5, 1), 7, 4194304, 2097152},
	} {
		s := begun(t, written([]api.OrOrder{c.o}, 0, 0, 0, c.from, c.to), []int{42, 43}, 0)
		want := slices.Clone(s.Store)
		want[5] = c.end
		if after := ran(t, s, 1); !slices.Equal(after.Store, want) || after.Done != 1 {
			t.Errorf("%v of %d and %d: %v", c.o, c.from, c.to, after)
		}
	}
	// An order that adds 128 to itself works on the next word then, and one that moves a halt over itself has still been done.
	s := begun(t, written([]api.OrOrder{op(2, 2, 0, 0)}, 0, 128), nil, 0)
	if after := ran(t, s, 2); after.Store[0] != s.Store[0]+128 || after.Store[1] != 128 || after.Done != 2 || after.Time != 64 {
		t.Errorf("an order that changes itself: %v", after)
	}
	s = begun(t, written([]api.OrOrder{op(1, 2, 0, 0)}), nil, 0)
	if after := ran(t, s, 5); after.Done != 1 || after.Time != 32 || after.Why != api.OrHalted || after.Store[0] != 0 {
		t.Errorf("an order that moves a halt to itself: %v", after)
	}
}

// P4.5: tests mind the sign alone, and what is printed is the word.
func TestSigns(t *testing.T) {
	for _, word := range edgeWords() {
		s := begun(t, written([]api.OrOrder{op(5, 4, 2, 1), op(7, 4, 0, 3), op(7, 4, 0, 6)}, 0, word), nil, 0)
		want := 3
		if plainSigned(word) < 0 {
			want = 6
		}
		if after := ran(t, s, 9); after.At != want || !slices.Equal(after.Printed, []int{word}) || after.Why != api.OrHalted {
			t.Errorf("a test of %d: %v", word, after)
		}
	}
}

// P4.5: the first end that applies is named, and nothing else changes then.
func TestEnds(t *testing.T) {
	const last = api.MaxOrTime // It has the place 0.
	full := make([]int, api.MaxOrPrints)
	for i, c := range []struct {
		o       api.OrOrder
		word    int
		tape    []int
		printed []int
		time    int
		why     int
	}{
		{op(0, 1, 2, 3), 0, []int{1}, nil, 0, api.OrHalted},
		{op(0, 1, 2, 3), 0, nil, full, last, api.OrHalted},
		{op(6, 1, 2, 3), 0, nil, nil, 0, api.OrNoTape},
		{op(6, 1, 2, 3), 0, nil, full, last, api.OrNoTape},
		{op(6, 1, 2, 3), 0, []int{1}, full, last, api.OrLate},
		{op(6, 1, 2, 3), 0, []int{1}, full, last - 16, api.OrGoing},
		{op(7, 1, 2, 3), 0, nil, full, 0, api.OrFull},
		{op(7, 1, 2, 3), 0, nil, full, last, api.OrFull},
		{op(7, 1, 2, 3), 0, nil, full[1:], last, api.OrLate},
		{op(7, 1, 2, 3), 0, nil, full[1:], last - 16, api.OrGoing},
		{op(1, 1, 2, 3), 0, nil, full, last, api.OrLate},
		{op(1, 1, 2, 3), 0, nil, full, last - 16, api.OrGoing},
		{op(1, 1, 2, 0), 0, nil, nil, last - 16, api.OrGoing},
		{op(1, 1, 2, 1), 0, nil, nil, last - 16, api.OrLate},
		{op(4, 1, 2, 0), 0, nil, nil, last - 32, api.OrGoing},
		{op(4, 1, 2, 1), 0, nil, nil, last - 32, api.OrLate},
		{op(5, 1, 1, 2), 0, nil, nil, last - 16, api.OrGoing},
		{op(5, 1, 1, 2), low, nil, nil, last - 16, api.OrLate},
		{op(5, 1, 2, 1), 0, nil, nil, last - 16, api.OrLate},
		{op(5, 1, 2, 1), low, nil, nil, last - 16, api.OrGoing},
	} {
		s := begun(t, written([]api.OrOrder{c.o}, c.word), c.tape, 0)
		s.Printed, s.Time, s.Done = c.printed, c.time, c.time/2
		after, want := ran(t, s, 1), copied(s)
		if want.Why = c.why; c.why == api.OrGoing {
			want, _ = plainRun(s, 1)
		}
		if !same(after, want) || after.Why != c.why || len(traced(t, s, 1)) != after.Done-s.Done {
			t.Errorf("end %d: %v, not %v", i, after, want)
		}
	}
}

// P4.5 against the definition; and P4.8: a run that has not ended has done as many orders as it should.
func TestRunPlain(t *testing.T) {
	r := rand.New(rand.NewSource(2))
	ends := map[int]int{}
	for range 4000 {
		s, most := someState(r), r.Intn(80)
		after, steps := ran(t, s, most), traced(t, s, most)
		want, wantSteps := plainRun(s, most)
		if !same(after, want) || !slices.Equal(steps, wantSteps) {
			t.Fatalf("%d orders of %v: %v, not %v", most, s, after, want)
		}
		if after.Why == api.OrGoing && after.Done != s.Done+most {
			t.Fatalf("%d orders of %v: %d done", most, s, after.Done-s.Done)
		}
		ends[after.Why]++
	}
	for why := api.OrGoing; why <= api.OrLate; why++ {
		if ends[why] < 20 {
			t.Errorf("only %d runs come to the end %d", ends[why], why)
		}
	}
}

// P4.7
func TestCut(t *testing.T) {
	r := rand.New(rand.NewSource(3))
	for range 1000 {
		s, some, more := someState(r), r.Intn(40), r.Intn(40)
		half, all := ran(t, s, some), ran(t, s, some+more)
		if after := ran(t, half, more); !same(after, all) {
			t.Fatalf("%d and %d orders of %v: %v, not %v", some, more, s, after, all)
		}
		steps := traced(t, s, some+more)
		if !slices.Equal(append(traced(t, s, some), traced(t, half, more)...), steps) {
			t.Fatalf("%d and %d orders of %v: not the steps %v", some, more, s, steps)
		}
		if len(steps) != all.Done-s.Done {
			t.Fatalf("%d steps for %d orders", len(steps), all.Done-s.Done)
		}
		at, time := s.At, s.Time
		for i, step := range steps {
			if step.At != at || step.Time != time {
				t.Fatalf("the step %d of %v begins at %d in %d, not at %d in %d", i, s, step.At, step.Time, at, time)
			}
			before := ran(t, s, i)
			at, _, _ = order.When(step.Order, step.Time, plainSigned(before.Store[step.Order.From]) < 0)
			time = step.Until
		}
		if at != all.At || time != all.Time {
			t.Fatalf("the steps of %v end at %d in %d, not at %d in %d", s, at, time, all.At, all.Time)
		}
	}
}

// P4.7: all orders that one call can do, and more, cut into two.
func TestCutLong(t *testing.T) {
	s := begun(t, written([]api.OrOrder{op(2, 4, 5, 1), op(3, 5, 6, 2), op(4, 5, 6, 0)}, 0, 5, 77), nil, 0)
	all := ran(t, s, 5000)
	if halves := ran(t, ran(t, s, 1234), 3766); !same(halves, all) || all.Done != 5000 {
		t.Errorf("5000 orders: %v, not %v", halves, all)
	}
	if more := ran(t, all, 5000); more.Done != 10000 || more.Why != api.OrGoing {
		t.Errorf("10000 orders: %v", more)
	}
}

// P4.8: what has ended stays as it is, even if its order could be done.
func TestEnded(t *testing.T) {
	r := rand.New(rand.NewSource(4))
	for range 2000 {
		s := someState(r)
		s.Why = 1 + r.Intn(4)
		most := r.Intn(30)
		if after, steps := ran(t, s, most), traced(t, s, most); !same(after, s) || len(steps) != 0 {
			t.Fatalf("%v goes on: %v, %v", s, after, steps)
		}
		s.Why = api.OrGoing
		if after := ran(t, s, 50); after.Why != api.OrGoing && !same(ran(t, after, most), after) {
			t.Fatalf("%v does not stay as it is", after)
		}
	}
}

// P4.10
func TestStore(t *testing.T) {
	r := rand.New(rand.NewSource(5))
	for range 300 {
		s := someState(r)
		for _, step := range traced(t, s, 60) {
			after := ran(t, s, 1)
			want := slices.Clone(s.Store)
			if o := step.Order; slices.Contains([]int{api.OrMove, api.OrAdd, api.OrSub, api.OrMul, api.OrRead}, o.Op) {
				want[o.To] = after.Store[o.To]
			}
			if !slices.Equal(after.Store, want) {
				t.Fatalf("%v changes more than a word of %v: %v", step.Order, s.Store, after.Store)
			}
			s = after
		}
	}
	for range 2000 {
		from, to := 2+r.Intn(126), 2+r.Intn(126)
		first := api.OrAdd + r.Intn(2)
		s := begun(t, written([]api.OrOrder{op(first, from, to, 1), op(api.OrAdd+api.OrSub-first, from, to, 0)}), nil, 0)
		for i := 2; i < 128; i++ {
			s.Store[i] = someWord(r)
		}
		if after := ran(t, s, 2); slices.Equal(after.Store, s.Store) != (from != to || s.Store[to] == 0) || after.Done != 2 {
			t.Fatalf("the words %d and %d of %v: %v", from, to, s.Store, after.Store)
		}
	}
}

// P4.11
func TestProducts(t *testing.T) {
	r := rand.New(rand.NewSource(6))
	words := edgeWords()
	for range 60 {
		words = append(words, r.Intn(api.OrWord))
	}
	for _, a := range words {
		for _, b := range words {
			s := begun(t, written([]api.OrOrder{op(api.OrMul, 1, 2, 3)}, a, b), nil, 0)
			after := ran(t, s, 1)
			exact, product := plainSigned(a)*plainSigned(b), plainSigned(after.Store[2])
			if a == low && b == low {
				exact = -exact
			}
			if rest := exact - product*8388608; rest < 0 || rest >= 8388608 || after.Store[1] != a {
				t.Fatalf("the product of %d and %d: %d", a, b, after.Store[2])
			}
		}
	}
}

// P4.12: the tape is taken in order, and what has been printed stays.
func TestTape(t *testing.T) {
	r := rand.New(rand.NewSource(7))
	for range 300 {
		s := someState(r)
		for _, step := range traced(t, s, 60) {
			after, printed := ran(t, s, 1), slices.Clone(s.Printed)
			switch step.Order.Op {
			case api.OrRead:
				if after.Taken != s.Taken+1 || after.Store[step.Order.To] != s.Tape[s.Taken] {
					t.Fatalf("%v takes what is not next: %v", s, after)
				}
			case api.OrPrint:
				printed = append(printed, s.Store[step.Order.From])
				fallthrough
			default:
				if after.Taken != s.Taken {
					t.Fatalf("%v takes a word without OrRead: %v", s, after)
				}
			}
			if !slices.Equal(after.Printed, printed) || !slices.Equal(after.Tape, s.Tape) {
				t.Fatalf("the paper or the tape of %v: %v", s, after)
			}
			s = after
		}
	}
}

// P4.12: what is printed does not depend on when.
func TestLater(t *testing.T) {
	r := rand.New(rand.NewSource(8))
	for range 2000 {
		s, most := someState(r), r.Intn(60)
		later := copied(s)
		by := 16 * r.Intn(1+(api.MaxOrTime-s.Time)/16)
		if r.Intn(2) == 0 {
			by = min(by, 16*r.Intn(30))
		}
		later.Time += by
		after, want := ran(t, later, most), ran(t, s, most)
		want.Time += by
		if after.Why == api.OrLate {
			// The time is over: it is what was done before.
			want = ran(t, s, after.Done-s.Done)
			want.Time, want.Why = want.Time+by, api.OrLate
		}
		if !same(after, want) {
			t.Fatalf("%v, later by %d: %v, not %v", s, by, after, want)
		}
	}
}
