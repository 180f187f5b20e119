package pulse_test

import (
	"math/rand"
	"slices"
	"testing"

	"quicksilver/api"
	"quicksilver/order"
	"quicksilver/pulse"
)

// P5.3, with the chapter's examples.
func TestMinorsS(t *testing.T) {
	want := stateS()
	want.Clock, want.Phase, want.Order = 1, api.PuTo, 12583560
	if s := minors(t, stateS(), 1); !same(s, want) {
		t.Errorf("Minors of 1: %v, not %v", s, want)
	}
	want.Clock, want.Phase, want.At, want.Done, want.Taken = 6, api.PuFetch, 8, 1, 1
	want.Store[5] = 3
	if s := minors(t, stateS(), 6); !same(s, want) {
		t.Errorf("Minors of 6: %v, not %v", s, want)
	}
	want.Clock, want.Phase, want.Order, want.Operand = 26, api.PuFetch, 10569226, 3
	want.At, want.Done = 10, 2
	if s := minors(t, stateS(), 26); !same(s, want) {
		t.Errorf("Minors of 26: %v, not %v", s, want)
	}
	if s := minors(t, stateS(), 0); !same(s, stateS()) {
		t.Errorf("Minors of 0: %v", s)
	}
	// At the end neither the order nor the clock changes.
	s := minors(t, stateS(), 141)
	if s.Clock != 141 || s.Why != api.OrGoing || s.Order != 14909453 || s.Done != 9 || !slices.Equal(s.Printed, []int{7}) {
		t.Errorf("Minors of 141: %v", s)
	}
	s.Why = api.OrHalted
	for _, many := range []int{142, 143, 20000} {
		if after := minors(t, stateS(), many); !same(after, s) {
			t.Errorf("Minors of %d: %v, not %v", many, after, s)
		}
	}
}

// P5.3, with the chapter's examples.
func TestMinorsM(t *testing.T) {
	for _, c := range []struct{ many, clock, phase, count, product, word int }{
		{2, 2, api.PuTo, 0, 0, 14680064},
		{3, 3, api.PuCount, 12, 0, 14680064},
		{4, 4, api.PuCount, 11, 0, 14680064},
		{14, 14, api.PuCount, 1, 0, 14680064},
		{15, 15, api.PuWrite, 0, -1 << 43, 14680064},
		{18, 18, api.PuWrite, 0, -1 << 43, 14680064},
		{19, 19, api.PuFetch, 0, -1 << 43, 15728640},
	} {
		s := minors(t, stateM(), c.many)
		if s.Clock != c.clock || s.Phase != c.phase || s.Count != c.count || s.Product != c.product || s.Store[2] != c.word {
			t.Errorf("Minors of %d: %v", c.many, s)
		}
	}
}

// P5.3: two bits of the operand in each minor cycle, the lower ones first, and the last one below 0.
func TestMultiplierSteps(t *testing.T) {
	s := minors(t, begun([]int{word(4, 1, 2, 3), 1 + 8 + 1<<21 + 1<<22 + 1<<23, 5}), 3)
	for n, product := range []int{0, 5, 45, 45, 45, 45, 45, 45, 45, 45, 45, 45 + 5<<21, 45 + 5<<21 - 5<<22} {
		want := copied(s)
		want.Clock, want.Product, want.Count = 3+n, product, 12-n
		if n == 12 {
			want.Phase = api.PuWrite
		}
		if after := minors(t, s, n); !same(after, want) {
			t.Errorf("Minors of %d: %v, not %v", n, after, want)
		}
	}
}

// P5.3: how many minor cycles there can be.
func TestMany(t *testing.T) {
	s := begun([]int{word(5, 0, 0, 0)})
	for _, many := range extremes() {
		after, e := pulse.Minors(s, many)
		if many < 0 || many > 20000 {
			if !same(after, api.PuState{}) || e != api.ErrRange {
				t.Errorf("Minors of %d: %v, %d", many, after, e)
			}
			continue
		}
		if after.Clock != many || after.Done != many/32+many%32/17 || e != api.OK {
			t.Errorf("Minors of %d: %v, %d", many, after, e)
		}
	}
}

// P5.3: why a run ends, and that nothing else changes then.
func TestEnds(t *testing.T) {
	const last = api.MaxOrTime // It has the place 0.
	full := make([]int, 200)
	for i, c := range []struct {
		order   int
		clock   int
		tape    []int
		printed []int
		why     int
	}{
		{word(0, 1, 2, 3), 0, []int{1}, nil, api.OrHalted},
		{word(0, 1, 2, 3), 0, nil, full, api.OrHalted},
		{word(6, 1, 2, 3), 0, nil, full, api.OrNoTape},
		{word(6, 1, 2, 3), 0, []int{1}, full, api.OrGoing},
		{word(7, 1, 2, 3), 0, nil, full, api.OrFull},
		{word(7, 1, 2, 3), 0, nil, full[1:], api.OrGoing},
		{word(1, 1, 2, 3), 0, nil, full, api.OrGoing},
		{word(5, 1, 2, 3), last - 16, nil, full, api.OrGoing},
		{word(0, 1, 2, 3), last - 16, nil, nil, api.OrHalted},
		// When the time is over, the order is not looked at.
		{word(0, 1, 2, 3), last, nil, nil, api.OrLate},
		{word(6, 1, 2, 3), last, nil, nil, api.OrLate},
		{word(7, 1, 2, 3), last, nil, full, api.OrLate},
		{word(1, 1, 2, 3), last, nil, nil, api.OrLate},
	} {
		s := begun([]int{c.order}, c.tape...)
		s.Printed, s.Clock, s.Done = c.printed, c.clock, c.clock/3
		want := copied(s)
		want.Why = c.why
		if c.why == api.OrGoing {
			want.Order, want.Clock, want.Phase = c.order, c.clock+1, api.PuFrom
			if plainOrder(c.order).Op == api.OrRead {
				want.Phase = api.PuTo
			}
		}
		for _, many := range []int{1, 2, 15, 400} {
			after := minors(t, s, many)
			if many > 1 && c.why == api.OrGoing {
				want = plainMinors(s, many)
			}
			if !same(after, want) {
				t.Errorf("end %d, Minors of %d: %v, not %v", i, many, after, want)
			}
		}
	}
}

// P5.3: the time can be over in any phase; it is named when no minor cycle is left.
func TestLate(t *testing.T) {
	r := rand.New(rand.NewSource(2))
	for range 500 {
		s := anyPhase(r)
		s.Clock = api.MaxOrTime
		want := copied(s)
		want.Why = api.OrLate
		for _, many := range []int{1, 2, 30} {
			if after := minors(t, s, many); !same(after, want) {
				t.Fatalf("Minors of %v: %v", s, after)
			}
		}
		s.Clock, s.Done = api.MaxOrTime-1, api.MaxOrTime-1
		after := minors(t, s, 1)
		if after.Why == api.OrGoing && after.Clock != api.MaxOrTime || !same(after, plainMinors(s, 1)) {
			t.Fatalf("Minors of %v: %v", s, after)
		}
		if after.Why == api.OrGoing {
			want = copied(after)
			want.Why = api.OrLate
		} else {
			want = after
		}
		if after := minors(t, s, 2); !same(after, want) {
			t.Fatalf("Minors of %v: %v, not %v", s, after, want)
		}
	}
}

// P5.3 against the definition, from any phase on, minor cycle by minor cycle and many at once.
func TestMinorsPlain(t *testing.T) {
	r := rand.New(rand.NewSource(3))
	ends := map[int]int{}
	for range 4000 {
		s, many := anyPhase(r), r.Intn(40)
		if r.Intn(2) == 0 {
			soon(r, &s, max(0, plainWaits(s)))
		}
		if r.Intn(8) == 0 {
			many = r.Intn(3000)
		}
		after, want := minors(t, s, many), plainMinors(s, many)
		if !same(after, want) {
			t.Fatalf("Minors of %v, %d: %v, not %v", s, many, after, want)
		}
		if part, at, e := pulse.Check(after); e != api.OK {
			t.Fatalf("Minors of %v, %d: %v with the error %d, %d, %d", s, many, after, part, at, e)
		}
		ends[after.Why]++
	}
	for why := api.OrGoing; why <= api.OrLate; why++ {
		if ends[why] < 20 {
			t.Errorf("only %d runs come to the end %d", ends[why], why)
		}
	}
}

// P5.3: what has ended stays as it is, in all phases.
func TestEnded(t *testing.T) {
	r := rand.New(rand.NewSource(4))
	for range 1000 {
		s := anyPhase(r)
		s.Why = 1 + r.Intn(4)
		many := r.Intn(60)
		if after := minors(t, s, many); !same(after, s) {
			t.Fatalf("%v goes on: %v", s, after)
		}
		if many, e := pulse.Until(s); many != 0 || e != api.ErrDown {
			t.Fatalf("Until of %v: %d, %d", s, many, e)
		}
		b := pulsed(t, s)
		b.Beat = r.Intn(24)
		if after := beats(t, b, many); !sameBits(after, b) {
			t.Fatalf("%v goes on: %v", b, after)
		}
	}
}

// P5.3: Until, with the chapter's examples.
func TestUntil(t *testing.T) {
	for many, want := range map[int]int{0: 1, 1: 5, 2: 4, 5: 1, 6: 3, 9: 13, 22: 5, 127: 15, 141: 1} {
		if until, e := pulse.Until(minors(t, stateS(), many)); until != want || e != api.OK {
			t.Errorf("Until after %d of s: %d, %d, not %d", many, until, e, want)
		}
	}
	for many, want := range map[int]int{0: 1, 1: 1, 2: 1, 3: 12, 10: 5, 15: 4, 18: 1, 19: 1} {
		if until, e := pulse.Until(minors(t, stateM(), many)); until != want || e != api.OK {
			t.Errorf("Until after %d of M: %d, %d, not %d", many, until, e, want)
		}
	}
	if until, e := pulse.Until(minors(t, stateS(), 142)); until != 0 || e != api.ErrDown {
		t.Errorf("Until after the end: %d, %d", until, e)
	}
	for _, c := range []struct{ clock, at, want int }{
		{1, 0, 16}, {1, 16, 16}, {0, 15, 16}, {15, 0, 2},
		{999999985, 0, 16}, {999999985, 1, 1}, {999999986, 1, 15}, {999999999, 0, 2}, {999999999, 15, 1}, {1000000000, 0, 1}, {1000000000, 15, 1},
	} {
		s := stateS()
		s.Clock, s.At = c.clock, c.at
		if until, e := pulse.Until(s); until != c.want || e != api.OK {
			t.Errorf("Until at %d of %d: %d, %d, not %d", c.at, c.clock, until, e, c.want)
		}
	}
}

// P5.3 and P5.9: Until is the first minor cycle with another phase, or the end; before it the machine only waits, or counts.
func TestWaiting(t *testing.T) {
	r := rand.New(rand.NewSource(5))
	for range 1500 {
		s := anyPhase(r)
		until, e := pulse.Until(s)
		if until < 1 || until > 16 || e != api.OK {
			t.Fatalf("Until of %v: %d, %d", s, until, e)
		}
		for many := range until {
			after := minors(t, s, many)
			want := copied(s)
			want.Clock, want.Product, want.Count = s.Clock+many, after.Product, after.Count
			if !same(after, want) || s.Phase != api.PuCount && (after.Product != s.Product || after.Count != s.Count) {
				t.Fatalf("%d minor cycles of %v: %v", many, s, after)
			}
		}
		if after := minors(t, s, until); after.Phase == s.Phase && after.Why == api.OrGoing {
			t.Fatalf("Until of %v: %d, but then %v", s, until, after)
		}
	}
}

// P5.10: all bits of both words count, with their signs.
func TestMultiplier(t *testing.T) {
	r := rand.New(rand.NewSource(6))
	words := slices.Concat(edgeWords(), someWords(r, 40))
	for _, a := range words {
		for _, b := range words {
			s := begun([]int{word(4, 1, 2, 3), a, b})
			product := plainSigned(a) * plainSigned(b)
			if after := minors(t, s, 2+1+12); after.Phase != api.PuWrite || after.Product != product || after.Store[2] != b {
				t.Fatalf("the product of %d and %d: %v", a, b, after)
			}
			want := plainModulo(plainQuotient(product), 16777216)
			if after := minors(t, s, 19); after.Store[2] != want || after.Phase != api.PuFetch || after.At != 3 || after.Done != 1 {
				t.Fatalf("the product of %d and %d: %v, not %d", a, b, after, want)
			}
		}
	}
}

// P5.6: orders and minor cycles come to the same.
func TestOrdersAndMinors(t *testing.T) {
	r := rand.New(rand.NewSource(7))
	ends := map[int]int{}
	for range 3000 {
		s, e := pulse.Order(someState(r))
		if e != api.OK {
			continue
		}
		last, e := order.Run(s, r.Intn(60))
		p, f := pulse.Start(s)
		if e != api.OK || f != api.OK {
			t.Fatalf("%v: %d, %d", s, e, f)
		}
		if last.Time >= api.MaxOrTime || last.Why == api.OrLate {
			continue
		}
		between := minors(t, p, last.Time-s.Time)
		want := last
		want.Why = api.OrGoing
		if o, e := pulse.Order(between); !sameOrders(o, want) || e != api.OK || between.Clock != last.Time {
			t.Fatalf("%v until %d: %v, %d, not %v", s, last.Time, o, e, want)
		}
		ends[last.Why]++
		if last.Why == api.OrGoing {
			continue
		}
		after := minors(t, between, 1)
		if between.Why = last.Why; !same(after, between) {
			t.Fatalf("the end of %v: %v, not %v", s, after, between)
		}
	}
	for why := api.OrGoing; why <= api.OrFull; why++ {
		if ends[why] < 10 {
			t.Errorf("only %d runs come to the end %d", ends[why], why)
		}
	}
}

// P5.6: an order is taken as it is when it comes by, also if it has changed itself, or the one before has changed it.
func TestChangedOrders(t *testing.T) {
	for _, words := range [][]int{
		{word(2, 2, 0, 0), 0, 128},
		{word(1, 2, 0, 0)},
		{word(1, 5, 1, 1), 0, 0, 0, 0, word(7, 6, 0, 2), 42},
		{word(6, 0, 1, 1)},
		{word(4, 1, 0, 0), 4194304},
		{word(3, 0, 0, 0)},
	} {
		s, e := order.Begin(words, []int{word(7, 0, 0, 3)}, 0)
		p, f := pulse.Start(s)
		if e != api.OK || f != api.OK {
			t.Fatalf("%v: %d, %d", words, e, f)
		}
		for most := range 6 {
			last, _ := order.Run(s, most)
			o, e := pulse.Order(minors(t, p, last.Time))
			if last.Why = api.OrGoing; !sameOrders(o, last) || e != api.OK {
				t.Errorf("%d orders of %v: %v, %d, not %v", most, words, o, e, last)
			}
		}
	}
}

// P5.8: minor cycles can be cut anywhere.
func TestMinorsCut(t *testing.T) {
	r := rand.New(rand.NewSource(8))
	for range 1500 {
		s, some, more := anyPhase(r), r.Intn(60), r.Intn(60)
		all := minors(t, s, some+more)
		if after := minors(t, minors(t, s, some), more); !same(after, all) {
			t.Fatalf("%d and %d minor cycles of %v: %v, not %v", some, more, s, after, all)
		}
	}
	s := begun([]int{word(2, 4, 5, 1), word(3, 5, 6, 2), word(4, 5, 6, 0), 0, 5, 77})
	all := minors(t, s, 20000)
	if after := minors(t, minors(t, s, 7777), 12223); !same(after, all) || all.Clock != 20000 {
		t.Errorf("20000 minor cycles: %v, not %v", after, all)
	}
}
