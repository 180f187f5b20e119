package pulse_test

import (
	"math"
	"math/rand"
	"reflect"
	"slices"
	"testing"

	"quicksilver/api"
	"quicksilver/order"
	"quicksilver/pulse"
)

// wild returns a number at which arithmetic could go wrong, or any other.
func wild(r *rand.Rand) int {
	if r.Intn(2) == 0 {
		return extremes()[r.Intn(len(extremes()))]
	}
	return int(r.Uint64())
}

// wildWords returns a list of any length, of which some numbers are no words.
func wildWords(r *rand.Rand) []int {
	words := someWords(r, r.Intn(203))
	if len(words) > 0 && r.Intn(2) == 0 {
		words[r.Intn(len(words))] = wild(r)
	}
	return words
}

// spoilt returns a state after some of its parts have been replaced by anything.
func spoilt(r *rand.Rand, s api.PuState) api.PuState {
	for range r.Intn(3) {
		if list := r.Intn(20); list < 3 {
			*[]*[]int{&s.Store, &s.Tape, &s.Printed}[list] = wildWords(r)
			continue
		}
		*numbers()[r.Intn(len(numbers()))].of(&s) = wild(r)
	}
	return s
}

// spoiltBits returns a state of pulses after some of its parts have been replaced by anything.
func spoiltBits(r *rand.Rand, b api.PuBits) api.PuBits {
	b.Now = spoilt(r, b.Now)
	switch r.Intn(9) {
	case 0:
		b.Lines = append(b.Lines, nil)[r.Intn(2):]
	case 1:
		b.Lines[r.Intn(8)] = make([]bool, r.Intn(500))
	case 2:
		b.Beat = wild(r)
	case 3:
		b.Carry = wild(r)
	case 4:
		b.Sum = wild(r)
	}
	return b
}

// zero fails if there is an error, and a result is not zero.
func zero(t *testing.T, call string, e api.Errno, result any) {
	t.Helper()
	if e != api.OK && !reflect.ValueOf(result).IsZero() {
		t.Fatalf("%s with the error %d: %v", call, e, result)
	}
}

// P5.13 and P1: whatever the arguments, the calls come back, and with an error all else is zero.
func TestAnyArguments(t *testing.T) {
	r := rand.New(rand.NewSource(21))
	for range 8000 {
		s, b, many := spoilt(r, anyPhase(r)), spoiltBits(r, someBits(r)), r.Intn(70)
		if r.Intn(3) == 0 {
			many = wild(r)
		}
		pulse.Check(s)
		o, e := pulse.Order(s)
		zero(t, "Order", e, o)
		if r.Intn(2) == 0 {
			o.Time, o.At = wild(r), wild(r)
		}
		begin, e := pulse.Start(o)
		zero(t, "Start", e, begin)
		if _, _, wrong := order.Check(o); e != wrong {
			t.Fatalf("Start of %v: %d, not %d", o, e, wrong)
		}
		after, e := pulse.Minors(s, many)
		zero(t, "Minors", e, after)
		until, e := pulse.Until(s)
		zero(t, "Until", e, until)
		bits, e := pulse.Bits(s)
		zero(t, "Bits", e, bits)
		words, e := pulse.Words(b)
		zero(t, "Words", e, words)
		later, e := pulse.Beats(b, many)
		zero(t, "Beats", e, later)
	}
}

// roomy returns a list with room behind its end, and all of it.
func roomy[T any](list []T, behind T) (part, whole []T) {
	whole = append(slices.Clone(list), behind, behind, behind)
	return whole[:len(list)], whole
}

// spoil writes over lists, up to their capacities.
func spoil(lists ...[]int) {
	for _, list := range lists {
		list = list[:cap(list)]
		for i := range list {
			list[i] = math.MinInt
		}
	}
}

// turnOver writes over lines, up to their capacities.
func turnOver(lines [][]bool) {
	for _, line := range lines {
		line = line[:cap(line)]
		for i := range line {
			line[i] = !line[i]
		}
	}
	clear(lines[:cap(lines)])
}

// spoilState writes over a result; one list after the other, so that lists that share memory are seen by now.
func spoilState(t *testing.T, call string, result, want api.PuState) {
	t.Helper()
	if !same(result, want) {
		t.Fatalf("%s: %v, not %v", call, result, want)
	}
	if spoil(result.Printed); !slices.Equal(result.Tape, want.Tape) || !slices.Equal(result.Store, want.Store) {
		t.Fatalf("%s: the paper shares memory with other lists", call)
	}
	if spoil(result.Tape); !slices.Equal(result.Store, want.Store) {
		t.Fatalf("%s: the tape shares memory with the store", call)
	}
	spoil(result.Store)
}

// P5.13: states stay as they are, also behind the ends of their lists, and results have memory of their own.
func TestMemory(t *testing.T) {
	r := rand.New(rand.NewSource(22))
	for range 400 {
		plain, many := anyPhase(r), r.Intn(60)
		soon(r, &plain, max(0, plainWaits(plain)))
		s := copied(plain)
		var wholes [3][]int
		s.Store, wholes[0] = roomy(s.Store, 7)
		s.Tape, wholes[1] = roomy(s.Tape, 7)
		s.Printed, wholes[2] = roomy(s.Printed, 7)
		before := [3][]int{slices.Clone(wholes[0]), slices.Clone(wholes[1]), slices.Clone(wholes[2])}
		for range 2 {
			pulse.Check(s)
			pulse.Until(s)
			spoilState(t, "Minors", minors(t, s, many), plainMinors(plain, many))
			if o, e := pulse.Order(s); e == api.OK {
				begin, _ := pulse.Start(o)
				want := copied(begin)
				spoil(o.Store, o.Tape, o.Printed)
				spoilState(t, "Start", begin, want)
			}
			b := pulsed(t, s)
			turnOver(b.Lines)
			want := copied(plain)
			want.Store = nil
			spoilState(t, "Bits", b.Now, want)
		}
		for i := range wholes {
			if !slices.Equal(wholes[i], before[i]) || !same(s, plain) {
				t.Fatalf("the argument %v was changed: %v", plain, s)
			}
		}
	}
}

// P5.13: states of pulses stay as they are, and results have memory of their own.
func TestBitsMemory(t *testing.T) {
	r := rand.New(rand.NewSource(23))
	for range 400 {
		b, many := someBits(r), r.Intn(60)
		if r.Intn(2) == 0 {
			b.Beat, b.Carry, b.Sum = 0, 0, 0
		}
		soon(r, &b.Now, max(0, plainWaits(b.Now)))
		var wholes [2][]int
		b.Now.Tape, wholes[0] = roomy(b.Now.Tape, 7)
		b.Now.Printed, wholes[1] = roomy(b.Now.Printed, 7)
		before := [2][]int{slices.Clone(wholes[0]), slices.Clone(wholes[1])}
		lines := make([][]bool, 8)
		for i := range b.Lines {
			b.Lines[i], lines[i] = roomy(b.Lines[i], true)
		}
		kept := plainBeats(api.PuBits{Lines: lines, Now: b.Now}, 0).Lines
		plain := plainBeats(b, 0)
		for range 2 {
			after, want := beats(t, b, many), plainBeats(plain, many)
			if !sameBits(after, want) {
				t.Fatalf("Beats of %v: %v, not %v", plain, after, want)
			}
			turnOver(after.Lines)
			spoilState(t, "Beats", after.Now, want.Now)
			if s, e := pulse.Words(b); e == api.OK {
				want := copied(s)
				spoilState(t, "Words", s, want)
			}
		}
		if !sameBits(b, plain) || !slices.EqualFunc(lines, kept, slices.Equal[[]bool]) {
			t.Fatalf("the argument %v was changed: %v", plain, b)
		}
		for i := range wholes {
			if !slices.Equal(wholes[i], before[i]) {
				t.Fatalf("behind the end of a list: %v, not %v", wholes[i], before[i])
			}
		}
	}
}

// P5.13: the lines of a result share no memory with each other.
func TestLinesApart(t *testing.T) {
	for _, b := range []api.PuBits{pulsed(t, stateS()), beats(t, pulsed(t, stateS()), 30)} {
		for i := range b.Lines {
			kept := plainBeats(b, 0)
			turnOver(b.Lines[i : i+1 : i+1])
			for k := i + 1; k < 8; k++ {
				if !slices.Equal(b.Lines[k], kept.Lines[k]) {
					t.Errorf("the lines %d and %d share memory", i, k)
				}
			}
		}
	}
}
