package pulse

import (
	"iter"

	"quicksilver/api"
)

// linePulses is how many pulses circulate in a line.
const linePulses = api.OrPlaces * api.OrBits

// Bits returns the pulses of a state.
func Bits(s api.PuState) (api.PuBits, api.Errno) {
	if _, _, e := Check(s); e != api.OK {
		return api.PuBits{}, e
	}
	b := api.PuBits{Lines: linesOf(s.Store)}
	s.Store = nil
	b.Now = fresh(s)
	return b, api.OK
}

// Words returns the state that pulses are.
func Words(b api.PuBits) (api.PuState, api.Errno) {
	if e := bitsError(b); e != api.OK {
		return api.PuState{}, e
	}
	if b.Beat != 0 {
		return api.PuState{}, api.ErrDown
	}
	return fresh(stateOf(b)), api.OK
}

// Beats does some beats.
func Beats(b api.PuBits, many int) (api.PuBits, api.Errno) {
	if e := bitsError(b); e != api.OK {
		return api.PuBits{}, e
	}
	if !within(0, api.MaxPuBeats, many) {
		return api.PuBits{}, api.ErrRange
	}
	b.Now, b.Lines = fresh(b.Now), copied(b.Lines)
	for i, line := range b.Lines {
		b.Lines[i] = copied(line)
	}
	s := serial{control: control{&b.Now}, PuBits: &b, add: adder(&b.Carry)}
	s.run(many, s.beat)
	return b, api.OK
}

// serial is the machine at work beat by beat: its control is that of Now, and its words are pulses.
type serial struct {
	control
	*api.PuBits
	add func(x, y int) bool
}

// adder returns what adds a pulse to another one; it keeps its carry from one call to the next.
func adder(carry *int) func(x, y int) bool {
	return func(x, y int) bool {
		sum := x + y + *carry
		*carry = sum / 2
		return sum%2 == 1
	}
}

// beat does a beat; the last one of a minor cycle ends this.
func (s serial) beat() {
	for address, pulse := range s.comingBy() {
		if address == s.awaited() {
			s.pass(pulse)
			break
		}
	}
	if s.Phase == api.PuCount {
		s.countBeat()
	}
	s.Beat++
	if s.Beat == api.OrBits {
		word := s.Sum
		s.Beat, s.Carry, s.Sum = 0, 0, 0
		s.finish(word)
	}
}

// comingBy yields the pulses that come by in this beat, one of each line, with the addresses of their words.
func (s serial) comingBy() iter.Seq2[int, *bool] {
	return func(yield func(int, *bool) bool) {
		for address := place(s.Clock); address < api.OrStore; address += api.OrPlaces {
			line, at := where(address, s.Beat)
			if !yield(address, &s.Lines[line][at]) {
				return
			}
		}
	}
}

// pass does what the phase does with a pulse of the word for which it waits: another one takes its place, or it is taken in.
func (s serial) pass(pulse *bool) {
	x, y := number(*pulse), bitOf(s.Operand, s.Beat)
	sent, ok := s.sent()
	switch adds := s.adds(); {
	case ok:
		*pulse = bitOf(sent, s.Beat) == 1
	case adds == api.OrAdd:
		*pulse = s.add(x, y)
	case adds == api.OrSub:
		if s.Beat == 0 {
			// Less a word is together with all its bits turned over, and 1.
			s.Carry = 1
		}
		*pulse = s.add(x, 1-y)
	default:
		s.Sum += x << s.Beat
	}
}

// countBeat multiplies by a bit of the operand in the last beat of each half of a minor cycle.
func (s serial) countBeat() {
	const half = api.OrBits / 2
	if s.Beat%half == half-1 {
		s.multiply(s.Beat / half)
	}
}

// bitsError returns the error of a state of pulses.
func bitsError(b api.PuBits) api.Errno {
	if !linesStated(b.Lines) || len(b.Now.Store) > 0 {
		return api.ErrLong
	}
	if _, _, e := Check(stateOf(b)); e != api.OK {
		return e
	}
	if !beatStated(b) {
		return api.ErrRange
	}
	return api.OK
}

// linesStated reports whether there are as many lines, and pulses in each, as stated.
func linesStated(lines [][]bool) bool {
	for _, line := range lines {
		if len(line) != linePulses {
			return false
		}
	}
	return len(lines) == api.OrLines
}

// beatStated reports whether the beat of a state of pulses, and what is kept in it, is as stated.
func beatStated(b api.PuBits) bool {
	return within(0, api.OrBits-1, b.Beat) &&
		within(0, min(b.Beat, 1), b.Carry) &&
		within(0, 1<<b.Beat-1, b.Sum)
}

// stateOf returns Now with the words that the pulses are; the rest shares its memory with Now.
func stateOf(b api.PuBits) api.PuState {
	b.Now.Store = make([]int, api.OrStore)
	for address := range b.Now.Store {
		for bit := range api.OrBits {
			line, at := where(address, bit)
			b.Now.Store[address] += number(b.Lines[line][at]) << bit
		}
	}
	return b.Now
}

// linesOf returns the pulses of words.
func linesOf(store []int) [][]bool {
	lines := make([][]bool, api.OrLines)
	for i := range lines {
		lines[i] = make([]bool, linePulses)
	}
	for address, word := range store {
		for bit := range api.OrBits {
			line, at := where(address, bit)
			lines[line][at] = bitOf(word, bit) == 1
		}
	}
	return lines
}

// where returns the line of a word, and the index in it of a pulse of this word.
func where(address, bit int) (line, at int) {
	return address / api.OrPlaces, place(address)*api.OrBits + bit
}

// number returns 1 for a pulse, and 0 for none.
func number(pulse bool) int {
	if pulse {
		return 1
	}
	return 0
}
