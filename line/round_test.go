package line_test

import (
	"math/bits"
	"math/rand"
	"slices"
	"testing"

	"quicksilver/api"
	"quicksilver/line"
)

// P1.4
func TestPass(t *testing.T) {
	words := []int{1, 128, 0, 255}
	none := []int{0, 0, 0, 0}
	for _, c := range []struct {
		words, temps, want []int
		at                 int
		e                  api.Errno
	}{
		{words, []int{8}, []int{3, 0, 1, 254}, -1, api.OK},
		{words, []int{8, -8}, words, -1, api.OK},
		{words, []int{2, 5, 8}, none, 1, api.OK},
		{words, nil, words, -1, api.OK},
		{words, []int{}, words, -1, api.OK},
		{words, []int{-8}, []int{0, 64, 128, 255}, -1, api.OK},
		{words, []int{80}, []int{255, 1, 128, 0}, -1, api.OK},
		{words, []int{1000}, []int{31, 0, 8, 240}, -1, api.OK},
		{words, []int{5, 5}, none, 0, api.OK},
		{words, []int{0, 0, 14}, none, 2, api.OK},
		{none, []int{0, 5}, none, 1, api.OK},
		{words, make([]int, 60), words, -1, api.OK},
		{nil, make([]int, 61), nil, 0, api.ErrLong},
		{words[:3], nil, nil, 0, api.ErrLong},
		{[]int{1, 2, 3, 4, 256}, nil, nil, 0, api.ErrLong},
		{[]int{0, 0, 0, 256}, make([]int, 61), nil, 0, api.ErrRange},
		{[]int{-1, 0, 0, 0}, nil, nil, 0, api.ErrRange},
		{words, append(make([]int, 60), 1001), nil, 0, api.ErrLong},
		{words, []int{5, 1001}, nil, 0, api.ErrRange},
		{words, []int{-501}, nil, 0, api.ErrRange},
	} {
		after, at, e := line.Pass(lineA(), c.words, c.temps)
		if !slices.Equal(after, c.want) || at != c.at || e != c.e {
			t.Errorf("Pass of %v at %v: %v, %d, %d", c.words, c.temps, after, at, e)
		}
	}
}

// P1.4: words of the most bits there can be, in the longest line, by one beat.
func TestPassLargest(t *testing.T) {
	l := api.LnLine{Words: 64, Bits: 40, Period: 10, Delay: 25610}
	words := make([]int, 64)
	words[0], words[63] = 1<<40-1, 1<<39
	want := make([]int, 64)
	want[0], want[1] = 1<<40-1, 1
	after, at, e := line.Pass(l, words, []int{0})
	if !slices.Equal(after, want) || at != -1 || e != api.OK {
		t.Errorf("Pass: %v, %d, %d", after, at, e)
	}
	words[5] = 1 << 40
	if _, _, e := line.Pass(l, words, nil); e != api.ErrRange {
		t.Errorf("Pass with a word too great: %d", e)
	}
}

// P1.4 against the definition, pulse by pulse, round by round.
func TestPassPlain(t *testing.T) {
	r := rand.New(rand.NewSource(4))
	for range 3000 {
		l := someLine(r)
		words := someWords(r, l)
		temps := make([]int, r.Intn(5))
		for i := range temps {
			temps[i] = r.Intn(31) - 15
		}
		want, lostAt := words, -1
		for i, temp := range temps {
			shift, lost := plainShift(l, temp)
			if lost {
				want, lostAt = make([]int, l.Words), i
				break
			}
			want = plainRound(l, want, shift)
		}
		after, at, e := line.Pass(l, words, temps)
		if !slices.Equal(after, want) || at != lostAt || e != api.OK {
			t.Fatalf("Pass of %v, %v at %v: %v, %d, %d, not %v, %d", l, words, temps, after, at, e, want, lostAt)
		}
	}
}

// P1.10: the order of temperatures does not matter, pulses are kept, and as many rounds as beats change nothing.
func TestRounds(t *testing.T) {
	r := rand.New(rand.NewSource(10))
	for range 2000 {
		l := someLine(r)
		words := someWords(r, l)
		temps := make([]int, 2+r.Intn(4))
		for i := range temps {
			temps[i] = r.Intn(21) - 10
		}
		after, at, _ := line.Pass(l, words, temps)
		r.Shuffle(len(temps), func(i, k int) { temps[i], temps[k] = temps[k], temps[i] })
		other, also, _ := line.Pass(l, words, temps)
		if !slices.Equal(after, other) || (at == -1) != (also == -1) {
			t.Fatalf("Pass of %v: %v and %v", l, after, other)
		}
		if at == -1 && pulses(after) != pulses(words) || at != -1 && pulses(after) != 0 {
			t.Fatalf("Pass of %v: %v become %v (%d)", l, words, after, at)
		}
		same := slices.Repeat(temps[:1], l.Words*l.Bits)
		after, at, e := line.Pass(l, words, same)
		if len(same) <= api.MaxLnRounds && (e != api.OK || at == -1 && !slices.Equal(after, words)) {
			t.Fatalf("Pass of %v, %d times at %d: %v, %d", l, len(same), same[0], after, e)
		}
	}
}

// pulses counts the pulses of words.
func pulses(words []int) int {
	n := 0
	for _, w := range words {
		n += bits.OnesCount(uint(w))
	}
	return n
}

// P1.5
func TestCan(t *testing.T) {
	for _, c := range []struct {
		temps []api.Span
		want  []int
		lost  bool
		e     api.Errno
	}{
		{[]api.Span{span(0, 8)}, []int{0, 1}, true, api.OK},
		{[]api.Span{span(0, 3), span(7, 8)}, []int{1}, false, api.OK},
		{nil, []int{0}, false, api.OK},
		{[]api.Span{span(-7, -7)}, []int{31}, false, api.OK},
		{[]api.Span{span(-7, 7), span(-7, 7)}, []int{0, 1, 2, 30, 31}, true, api.OK},
		{[]api.Span{span(5, 5)}, nil, true, api.OK},
		{[]api.Span{span(5, 5), span(0, 0), span(10, 20)}, nil, true, api.OK},
		{[]api.Span{span(0, 0), span(10, 20), span(4, 6)}, nil, true, api.OK},
		{[]api.Span{span(320, 320)}, []int{0}, false, api.OK},
		{[]api.Span{span(310, 310), span(10, 10)}, []int{0}, false, api.OK},
		{make([]api.Span, 60), []int{0}, false, api.OK},
		{make([]api.Span, 61), nil, false, api.ErrLong},
		{append(make([]api.Span, 60), span(1, 0)), nil, false, api.ErrLong},
		{[]api.Span{span(1, 0), span(0, 1001)}, nil, false, api.ErrArg},
		{[]api.Span{span(0, 0), span(0, 1001), span(1, 0)}, nil, false, api.ErrRange},
		{[]api.Span{span(1001, 0)}, nil, false, api.ErrRange},
		{[]api.Span{span(0, -501)}, nil, false, api.ErrRange},
	} {
		can, e := line.Can(lineA(), c.temps)
		if !slices.Equal(can.Shifts, c.want) || can.Lost != c.lost || e != c.e {
			t.Errorf("Can with %v: %v, %d", c.temps, can, e)
		}
	}
}

// P1.5 against the definition: all shifts that some choice of temperatures adds up to.
func TestCanPlain(t *testing.T) {
	r := rand.New(rand.NewSource(5))
	for range 1500 {
		l := someLine(r)
		var temps []api.Span
		for range r.Intn(4) {
			temps = append(temps, someSpan(r, -20, 25))
		}
		want, lost := map[int]bool{0: true}, false
		for _, s := range temps {
			next := map[int]bool{}
			for temp := s.Lo; temp <= s.Hi; temp++ {
				shift, none := plainShift(l, temp)
				lost = lost || none
				for n := range want {
					if all := l.Words * l.Bits; !none {
						next[((n+shift)%all+all)%all] = true
					}
				}
			}
			want = next
		}
		can, e := line.Can(l, temps)
		if !slices.IsSorted(can.Shifts) || len(can.Shifts) != len(want) || can.Lost != lost || e != api.OK {
			t.Fatalf("Can of %v with %v: %v, %d, not %v, %v", l, temps, can, e, want, lost)
		}
		for _, n := range can.Shifts {
			if !want[n] {
				t.Fatalf("Can of %v with %v: %v, not %v", l, temps, can, want)
			}
		}
	}
}

// P1.5: the largest line with all temperatures in all rounds; only even numbers of beats can be.
func TestCanLargest(t *testing.T) {
	l := api.LnLine{Words: 64, Bits: 40, Period: 2, Delay: 5120, Slope: 4}
	can, e := line.Can(l, slices.Repeat([]api.Span{span(-500, 1000)}, 60))
	if len(can.Shifts) != 1280 || can.Shifts[1279] != 2558 || can.Lost || e != api.OK {
		t.Errorf("Can: %d numbers, %v, %d", len(can.Shifts), can.Lost, e)
	}
}

// P1.11: whatever temperatures there are within spans, the words are late by a number of Can; narrower spans add none.
func TestCanTheorem(t *testing.T) {
	r := rand.New(rand.NewSource(11))
	for range 2000 {
		l := someLine(r)
		var spans, narrow []api.Span
		var temps []int
		for range r.Intn(5) {
			s := someSpan(r, -12, 15)
			temp := s.Lo + r.Intn(s.Hi-s.Lo+1)
			spans = append(spans, s)
			temps = append(temps, temp)
			narrow = append(narrow, span(s.Lo+r.Intn(temp-s.Lo+1), s.Hi-r.Intn(s.Hi-temp+1)))
		}
		words := someWords(r, l)
		can, _ := line.Can(l, spans)
		after, at, _ := line.Pass(l, words, temps)
		isIt := func(n int) bool { return slices.Equal(plainRound(l, words, n), after) }
		if at >= 0 && !can.Lost || at == -1 && !slices.ContainsFunc(can.Shifts, isIt) {
			t.Fatalf("Can of %v with %v: %v; at %v: %v, %d", l, spans, can, temps, after, at)
		}
		less, _ := line.Can(l, narrow)
		for _, n := range less.Shifts {
			if !slices.Contains(can.Shifts, n) {
				t.Fatalf("Can of %v: %v with %v, %v with %v", l, can, spans, less, narrow)
			}
		}
		if less.Lost && !can.Lost {
			t.Fatalf("Can of %v: lost with %v, not with %v", l, narrow, spans)
		}
	}
}
