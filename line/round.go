package line

import (
	"iter"

	"quicksilver/api"
)

// round is what becomes of the pulses of a line in a round; its zero value is that they stay in their places.
type round struct {
	shift int
	lost  bool
}

// roundAt returns what becomes of the pulses at a temperature.
func roundAt(l api.LnLine, temp int) round {
	late := l.Delay + l.Slope*temp - beats(l)*l.Period
	// Moved by Window, what is read as a beat begins with the beat and ends two windows behind it.
	moved := late + l.Window
	behind := modulo(moved, l.Period)
	if behind > 2*l.Window {
		return round{lost: true}
	}
	return round{shift: (moved - behind) / l.Period}
}

// rounds yields the rounds of a line at some temperatures, with their indices.
func rounds(l api.LnLine, temps []int) iter.Seq2[int, round] {
	return func(yield func(int, round) bool) {
		for at, temp := range temps {
			if !yield(at, roundAt(l, temp)) {
				return
			}
		}
	}
}

// Pass returns the words after a round at each of some temperatures.
func Pass(l api.LnLine, words, temps []int) (after []int, at int, e api.Errno) {
	if e := passError(l, words, temps); e != api.OK {
		return nil, 0, e
	}
	pulses := pulsesOf(l, words)
	for at, r := range rounds(l, temps) {
		if r.lost {
			return make([]int, l.Words), at, api.OK
		}
		pulses = turn(pulses, r.shift)
	}
	return wordsOf(l, pulses), -1, api.OK
}

// passError returns the error of what Pass is given.
func passError(l api.LnLine, words, temps []int) api.Errno {
	if e := Check(l); e != api.OK {
		return e
	}
	if e := wordsError(l, words); e != api.OK {
		return e
	}
	if len(temps) > api.MaxLnRounds {
		return api.ErrLong
	}
	for _, temp := range temps {
		if !isTemp(temp) {
			return api.ErrRange
		}
	}
	return api.OK
}

// wordsError returns the error of the words of a line.
func wordsError(l api.LnLine, words []int) api.Errno {
	if len(words) != l.Words {
		return api.ErrLong
	}
	for _, word := range words {
		if !within(word, 0, 1<<l.Bits-1) {
			return api.ErrRange
		}
	}
	return api.OK
}

// pulsesOf returns for each beat of a line whether there is a pulse in it.
func pulsesOf(l api.LnLine, words []int) []bool {
	pulses := make([]bool, 0, beats(l))
	for _, word := range words {
		for bit := range l.Bits {
			pulses = append(pulses, word>>bit&1 == 1)
		}
	}
	return pulses
}

// wordsOf returns the words that pulses are.
func wordsOf(l api.LnLine, pulses []bool) []int {
	words := make([]int, l.Words)
	for beat, pulse := range pulses {
		if pulse {
			words[beat/l.Bits] |= 1 << (beat % l.Bits)
		}
	}
	return words
}

// turn returns pulses by some beats later; those that leave the line at its end are sent in again.
func turn(pulses []bool, by int) []bool {
	by = modulo(by, len(pulses))
	kept := len(pulses) - by
	after := make([]bool, len(pulses))
	// Each part can only fill its own places, as its capacity ends where the other part begins.
	copy(after[:by:by], pulses[kept:])
	copy(after[by:], pulses[:kept:kept])
	return after
}
