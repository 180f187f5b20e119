package pulse_test

import (
	"math/rand"
	"slices"
	"testing"

	"quicksilver/api"
	"quicksilver/pulse"
)

// P5.4: which pulse is which bit of which word.
func TestBits(t *testing.T) {
	s := begun([]int{1: 1, 16: 5, 127: low})
	s.Tape, s.Printed, s.Taken, s.Clock, s.Done, s.Why = []int{6}, []int{7}, 1, 9, 4, api.OrHalted
	s.Order, s.Operand, s.Other, s.Product = 1, 2, 3, -4
	b := pulsed(t, s)
	want := s
	want.Store = nil
	if !same(b.Now, want) || b.Beat != 0 || b.Carry != 0 || b.Sum != 0 || len(b.Lines) != 8 {
		t.Errorf("Bits of %v: %v", s, b)
	}
	for i, line := range b.Lines {
		var there []int
		for at, pulse := range line {
			if pulse {
				there = append(there, at)
			}
		}
		if want := [8][]int{0: {24}, 1: {0, 2}, 7: {383}}[i]; !slices.Equal(there, want) || len(line) != 384 {
			t.Errorf("pulses of the line %d: %v of %d, not %v", i, there, len(line), want)
		}
	}
	if back := worded(t, b); !same(back, s) {
		t.Errorf("Words of %v: %v", b, back)
	}
}

// P5.4 against the definition, and P5.11: Words of Bits is the state.
func TestBitsAndWords(t *testing.T) {
	r := rand.New(rand.NewSource(11))
	for range 500 {
		s := anyPhase(r)
		s.Why = r.Intn(5)
		want := api.PuBits{Lines: plainLines(s.Store), Now: s}
		want.Now.Store = nil
		b := pulsed(t, s)
		if !sameBits(b, want) {
			t.Fatalf("Bits of %v: %v", s, b)
		}
		if back := worded(t, b); !same(back, s) {
			t.Fatalf("Words of %v: %v, not %v", b, back, s)
		}
	}
}

// P5.4: in the middle of a minor cycle there are no words.
func TestWordsDown(t *testing.T) {
	for beat := 1; beat < 24; beat++ {
		b := pulsed(t, stateS())
		b.Beat = beat
		if s, e := pulse.Words(b); !same(s, api.PuState{}) || e != api.ErrDown {
			t.Errorf("Words in the beat %d: %v, %d", beat, s, e)
		}
	}
}

// P5.4 and P5.5: the error of a state of pulses, before that of many.
func TestBitsErrors(t *testing.T) {
	for i, c := range []struct {
		spoil func(b *api.PuBits)
		e     api.Errno
	}{
		{func(b *api.PuBits) { b.Lines, b.Now.Clock = b.Lines[:7], -1 }, api.ErrLong},
		{func(b *api.PuBits) { b.Lines = append(b.Lines, make([]bool, 384)) }, api.ErrLong},
		{func(b *api.PuBits) { b.Lines = nil }, api.ErrLong},
		{func(b *api.PuBits) { b.Lines[7], b.Beat = b.Lines[7][:383], -1 }, api.ErrLong},
		{func(b *api.PuBits) { b.Lines[0] = append(b.Lines[0], false) }, api.ErrLong},
		{func(b *api.PuBits) { b.Lines[4] = nil }, api.ErrLong},
		{func(b *api.PuBits) { b.Now.Store, b.Now.At = make([]int, 128), -1 }, api.ErrLong},
		{func(b *api.PuBits) { b.Now.Store, b.Now.Tape = []int{0}, []int{-1} }, api.ErrLong},
		{func(b *api.PuBits) { b.Now.Tape, b.Beat = make([]int, 201), -1 }, api.ErrLong},
		{func(b *api.PuBits) { b.Now.Tape[0], b.Now.Count = -1, 1 }, api.ErrRange},
		{func(b *api.PuBits) { b.Now.Printed, b.Now.Count = []int{api.OrWord}, 1 }, api.ErrRange},
		{func(b *api.PuBits) { b.Now.Taken, b.Now.Count = 4, 1 }, api.ErrRange},
		{func(b *api.PuBits) { b.Now.Count, b.Beat, b.Carry, b.Sum = 1, -1, -1, -1 }, api.ErrArg},
		{func(b *api.PuBits) { b.Now.Phase = api.PuFrom }, api.ErrArg},
		{func(b *api.PuBits) { b.Now.Phase, b.Now.Why, b.Beat = api.PuWrite, api.OrLate, 24 }, api.ErrArg},
		{func(b *api.PuBits) { b.Carry = 1 }, api.ErrRange},
		{func(b *api.PuBits) { b.Carry = -1 }, api.ErrRange},
		{func(b *api.PuBits) { b.Beat, b.Carry = 23, 2 }, api.ErrRange},
		{func(b *api.PuBits) { b.Beat, b.Carry = 23, -1 }, api.ErrRange},
		{func(b *api.PuBits) { b.Sum = 1 }, api.ErrRange},
		{func(b *api.PuBits) { b.Beat, b.Sum = 1, 2 }, api.ErrRange},
		{func(b *api.PuBits) { b.Beat, b.Sum = 23, 1<<23 }, api.ErrRange},
		{func(b *api.PuBits) { b.Beat, b.Sum = 23, -1 }, api.ErrRange},
		{func(b *api.PuBits) { b.Beat = 24 }, api.ErrRange},
		{func(b *api.PuBits) { b.Beat = -1 }, api.ErrRange},
	} {
		b := pulsed(t, stateS())
		c.spoil(&b)
		if s, e := pulse.Words(b); !same(s, api.PuState{}) || e != c.e {
			t.Errorf("Words of the wrong state %d: %v, %d, not %d", i, s, e, c.e)
		}
		for _, many := range []int{0, 1, -1, 60001} {
			if after, e := pulse.Beats(b, many); !sameBits(after, api.PuBits{}) || e != c.e {
				t.Errorf("Beats of the wrong state %d: %v, %d, not %d", i, after, e, c.e)
			}
		}
	}
	for _, n := range extremes() {
		for i, of := range []func(b *api.PuBits) *int{
			func(b *api.PuBits) *int { return &b.Beat },
			func(b *api.PuBits) *int { return &b.Carry },
			func(b *api.PuBits) *int { return &b.Sum },
		} {
			b := pulsed(t, stateS())
			b.Beat = 7
			*of(&b) = n
			want := api.OK
			if n < 0 || n >= [3]int{24, 2, 128}[i] {
				want = api.ErrRange
			}
			if _, e := pulse.Beats(b, 0); e != want {
				t.Errorf("Beats with the number %d, %d: %d, not %d", i, n, e, want)
			}
		}
	}
}

// P5.5: how many beats there can be.
func TestBeatsMany(t *testing.T) {
	b := pulsed(t, begun([]int{word(5, 0, 0, 0)}))
	for _, many := range extremes() {
		after, e := pulse.Beats(b, many)
		if many < 0 || many > 60000 {
			if !sameBits(after, api.PuBits{}) || e != api.ErrRange {
				t.Errorf("Beats of %d: %v, %d", many, after, e)
			}
			continue
		}
		if after.Now.Clock != many/24 || after.Beat != many%24 || e != api.OK {
			t.Errorf("Beats of %d: %v, %d", many, after, e)
		}
	}
}

// P5.5, with the chapter's example: a word is taken in bit by bit, and becomes the order at last.
func TestBeatsFetch(t *testing.T) {
	b := pulsed(t, stateS())
	for many := range 24 {
		want := b
		want.Beat, want.Sum = many, 12583560%(1<<many)
		if after := beats(t, b, many); !sameBits(after, want) {
			t.Errorf("Beats of %d: %v, not %v", many, after, want)
		}
	}
	if s := worded(t, beats(t, b, 24)); !same(s, minors(t, stateS(), 1)) {
		t.Errorf("Words after 24 beats: %v", s)
	}
}

// P5.5: the adder, beat by beat, with all carries.
func TestBeatsAdder(t *testing.T) {
	for _, what := range []int{api.OrAdd, api.OrSub} {
		for _, a := range edgeWords() {
			for _, c := range edgeWords() {
				b := pulsed(t, minors(t, begun([]int{word(what, 1, 2, 3), a, c}), 2))
				for many := range 24 {
					// Below this beat the bits are those of the result, from it on still those of the word.
					part := 1 << many
					sum, carry := c%part+a%part, 0
					if what == api.OrSub {
						sum = c%part - a%part + part
					}
					if many > 0 {
						carry = sum / part
					}
					want := plainBits(sum%part + c - c%part)
					after := beats(t, b, many)
					if !slices.Equal(after.Lines[0][48:72], want) || after.Carry != carry || after.Sum != 0 || after.Now.Done != 0 {
						t.Fatalf("%d beats of %d with %d and %d: %v, not %v, %d", many, what, a, c, after, want, carry)
					}
				}
				if after := beats(t, b, 24); after.Carry != 0 || after.Beat != 0 || after.Now.Done != 1 {
					t.Fatalf("24 beats of %d with %d and %d: %v", what, a, c, after)
				}
			}
		}
	}
}

// P5.5: words are written pulse by pulse; the tape is taken after the last one.
func TestBeatsWrite(t *testing.T) {
	const old, given = 11184810, 13421772
	move := minors(t, begun([]int{word(1, 1, 2, 3), given, old}), 2)
	read := minors(t, begun([]int{word(6, 1, 2, 3), 0, old}, given), 2)
	write := begun([]int{word(4, 1, 2, 3), 0, old})
	write.Phase, write.Order, write.Product, write.Clock = api.PuWrite, write.Store[0], (given-api.OrWord)<<23+77, 2
	for i, s := range []api.PuState{move, read, write} {
		b := pulsed(t, s)
		for many := range 24 {
			want := copied(s)
			want.Store[2] = given%(1<<many) + old>>many<<many
			after := beats(t, b, many)
			if after.Beat != many {
				t.Errorf("%d, %d beats: %v", i, many, after)
			}
			after.Beat = 0
			if words := worded(t, after); !same(words, want) {
				t.Errorf("%d, %d beats: %v, not %v", i, many, words, want)
			}
		}
		want := minors(t, s, 1)
		if after := worded(t, beats(t, b, 24)); !same(after, want) || after.Store[2] != given {
			t.Errorf("%d, 24 beats: %v, not %v", i, after, want)
		}
	}
}

// P5.5: the multiplier works in the beats 11 and 23.
func TestBeatsMultiplier(t *testing.T) {
	for k := 0; k < 24; k += 2 {
		s := begun([]int{word(4, 1, 2, 3)})
		s.Phase, s.Order, s.Count, s.Clock = api.PuCount, s.Store[0], 12-k/2, 5
		s.Operand, s.Other, s.Product = 3<<k, 3, 1000
		b := pulsed(t, s)
		second := 3 << (k + 1)
		if k == 22 {
			second = -second
		}
		for many, product := range map[int]int{0: 1000, 11: 1000, 12: 1000 + 3<<k, 23: 1000 + 3<<k, 24: 1000 + 3<<k + second} {
			if after := beats(t, b, many); after.Now.Product != product || after.Now.Count != 12-k/2-many/24 {
				t.Errorf("%d beats with the bits from %d on: %v, not %d", many, k, after.Now, product)
			}
		}
	}
}

// P5.5: a run ends after the last beat, and then the clock stays; when the time is over, it ends at once.
func TestBeatsEnds(t *testing.T) {
	full := make([]int, 200)
	for i, c := range []struct{ order, why int }{
		{word(0, 1, 2, 3), api.OrHalted}, {word(6, 1, 2, 3), api.OrNoTape}, {word(7, 1, 2, 3), api.OrFull},
	} {
		s := begun([]int{c.order})
		s.Printed = full
		b := pulsed(t, s)
		if after := beats(t, b, 23); after.Now.Why != api.OrGoing || after.Beat != 23 || after.Sum != c.order%low {
			t.Errorf("end %d, 23 beats: %v", i, after)
		}
		for _, many := range []int{24, 25, 60000} {
			want := b
			want.Now.Why = c.why
			if after := beats(t, b, many); !sameBits(after, want) {
				t.Errorf("end %d, %d beats: %v", i, many, after)
			}
		}
	}
	r := rand.New(rand.NewSource(12))
	for range 200 {
		b := someBits(r)
		b.Now.Clock = api.MaxOrTime
		want := b
		want.Now.Why = api.OrLate
		for _, many := range []int{1, 2, 23, 24, 100} {
			if after := beats(t, b, many); !sameBits(after, want) {
				t.Fatalf("%d beats of %v: %v", many, b, after)
			}
		}
	}
}

// P5.5 against the definition, from any beat on.
func TestBeatsPlain(t *testing.T) {
	r := rand.New(rand.NewSource(13))
	for range 3000 {
		b, many := someBits(r), r.Intn(60)
		if r.Intn(4) > 0 {
			soon(r, &b.Now, max(0, plainWaits(b.Now)))
		}
		if r.Intn(20) == 0 {
			many = r.Intn(3000)
		}
		after, want := beats(t, b, many), plainBeats(b, many)
		if !sameBits(after, want) {
			t.Fatalf("Beats of %v, %d: %v, not %v", b, many, after, want)
		}
		if _, e := pulse.Beats(after, 0); e != api.OK {
			t.Fatalf("Beats of %v, %d: %v with the error %d", b, many, after, e)
		}
	}
}

// P5.5: what a minor cycle has taken in counts, and not the pulses that were there.
func TestBeatsSum(t *testing.T) {
	b := pulsed(t, stateS())
	b.Beat, b.Carry, b.Sum = 22, 1, 12583561%(1<<22)
	after := beats(t, b, 1)
	if after.Carry != 1 || after.Beat != 23 {
		t.Errorf("Beats of 1: %v", after)
	}
	if after = beats(t, b, 2); after.Now.Order != 12583561 || after.Carry != 0 || after.Sum != 0 || after.Now.Phase != api.PuTo {
		t.Errorf("Beats of 2: %v", after)
	}
	// Nothing is taken in if the word does not come by.
	b.Now.At = 1
	if after = beats(t, b, 1); after.Sum != b.Sum || after.Carry != 1 {
		t.Errorf("Beats of 1: %v", after)
	}
	if after = beats(t, b, 2); after.Now.Order != 0 || after.Now.Clock != 1 || after.Sum != 0 || after.Carry != 0 {
		t.Errorf("Beats of 2: %v", after)
	}
}

// P5.7: minor cycles and beats come to the same.
func TestMinorsAndBeats(t *testing.T) {
	r := rand.New(rand.NewSource(14))
	for range 1500 {
		s, many := anyPhase(r), r.Intn(8)
		if r.Intn(2) == 0 {
			soon(r, &s, max(0, plainWaits(s)))
		}
		if r.Intn(10) == 0 {
			many = r.Intn(200)
		}
		if after := worded(t, beats(t, pulsed(t, s), 24*many)); !same(after, minors(t, s, many)) {
			t.Fatalf("%d minor cycles of %v as beats: %v", many, s, after)
		}
	}
	for many := range 150 {
		if after := worded(t, beats(t, pulsed(t, stateS()), 24*many)); !same(after, minors(t, stateS(), many)) {
			t.Fatalf("%d minor cycles of s as beats: %v", many, after)
		}
	}
}

// P5.8: beats can be cut anywhere, also within a minor cycle.
func TestBeatsCut(t *testing.T) {
	r := rand.New(rand.NewSource(15))
	for range 1500 {
		b, some, more := someBits(r), r.Intn(50), r.Intn(50)
		if r.Intn(2) == 0 {
			soon(r, &b.Now, max(0, plainWaits(b.Now)))
		}
		all := beats(t, b, some+more)
		if after := beats(t, beats(t, b, some), more); !sameBits(after, all) {
			t.Fatalf("%d and %d beats of %v: %v, not %v", some, more, b, after, all)
		}
	}
	b := pulsed(t, begun([]int{word(2, 4, 5, 1), word(3, 5, 6, 2), word(4, 5, 6, 0), 0, 5, 77}))
	all := beats(t, b, 60000)
	if after := beats(t, beats(t, b, 12345), 47655); !sameBits(after, all) || all.Now.Clock != 2500 {
		t.Errorf("60000 beats: %v, not %v", after, all)
	}
}

// P5.12: at most one pulse changes in a beat, and it is one of the word at To, which comes by.
func TestOneLine(t *testing.T) {
	r := rand.New(rand.NewSource(16))
	changes := 0
	for range 3000 {
		b := someBits(r)
		soon(r, &b.Now, max(0, plainWaits(b.Now)))
		to := plainOrder(b.Now.Order).To
		writes := (b.Now.Phase == api.PuTo || b.Now.Phase == api.PuWrite) && b.Now.Clock%16 == to%16
		after := beats(t, b, 1)
		for i, line := range after.Lines {
			for at, pulse := range line {
				if pulse == b.Lines[i][at] {
					continue
				}
				changes++
				if !writes || i != to/16 || at != to%16*24+b.Beat {
					t.Fatalf("the pulse %d of the line %d of %v changes", at, i, b)
				}
			}
		}
	}
	if changes < 100 {
		t.Errorf("only %d pulses have changed", changes)
	}
}
