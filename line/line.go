// Package line is layer 1: names, mercury lines, their ovens and their files. See shared/doc/01-line.md.
package line

import (
	"cmp"
	"iter"

	"quicksilver/api"
)

// Name reports whether a string is a name.
func Name(s string) bool {
	if !within(len(s), 1, api.MaxName) || !isLetter(s[0]) || s[len(s)-1] == '_' {
		return false
	}
	for i := range len(s) {
		if c := s[i]; !isLetter(c) && !isDigit(c) && c != '_' {
			return false
		}
	}
	return true
}

func isLetter(c byte) bool { return 'a' <= c && c <= 'z' }

func isDigit(c byte) bool { return '0' <= c && c <= '9' }

// Check returns the error of a line.
func Check(l api.LnLine) api.Errno {
	// Window is compared last: its limit is only a number once Period is as stated.
	stated := within(l.Words, 1, api.MaxLnWords) &&
		within(l.Bits, 1, api.MaxLnBits) &&
		within(l.Period, 2, api.MaxLnPeriod) &&
		within(l.Delay, 0, api.MaxLnDelay) &&
		within(l.Slope, -api.MaxLnSlope, api.MaxLnSlope) &&
		within(l.Window, 0, (l.Period-1)/2)
	if !stated {
		return api.ErrRange
	}
	return api.OK
}

// Shift returns by how many beats pulses are late at a temperature, or that they are lost.
func Shift(l api.LnLine, temp int) (shift int, lost bool, e api.Errno) {
	if e := Check(l); e != api.OK {
		return 0, false, e
	}
	if !isTemp(temp) {
		return 0, false, api.ErrRange
	}
	r := roundAt(l, temp)
	return r.shift, r.lost, api.OK
}

// Safe returns the temperatures at which a line is safe.
func Safe(l api.LnLine) (api.Span, api.Errno) {
	if e := Check(l); e != api.OK {
		return api.Span{}, e
	}
	lo, hi, found := ends(safeTemps(l))
	if !found {
		return api.Span{}, api.ErrDown
	}
	return api.Span{Lo: lo, Hi: hi}, api.OK
}

// Next returns the next beat in which a word begins to come by.
func Next(l api.LnLine, word, beat int) (int, api.Errno) {
	if e := Check(l); e != api.OK {
		return 0, e
	}
	if !within(word, 0, l.Words-1) || !within(beat, 0, api.MaxLnDelay) {
		return 0, api.ErrRange
	}
	// The beat itself does not count, so the search begins with the one behind it.
	first := beat + 1
	return first + modulo(word*l.Bits-first, beats(l)), api.OK
}

// beats returns how many beats a line has.
func beats(l api.LnLine) int { return l.Words * l.Bits }

// safeTemps yields the temperatures at which a line is safe.
func safeTemps(l api.LnLine) iter.Seq[int] {
	return func(yield func(int) bool) {
		for temp := api.MinLnTemp; temp <= api.MaxLnTemp; temp++ {
			if roundAt(l, temp) == (round{}) && !yield(temp) {
				return
			}
		}
	}
}

// ends returns the least and the greatest of some values, and whether there is one.
func ends[T cmp.Ordered](values iter.Seq[T]) (lo, hi T, found bool) {
	for v := range values {
		if !found {
			lo, hi, found = v, v, true
		}
		lo, hi = min(lo, v), max(hi, v)
	}
	return lo, hi, found
}

func isTemp(temp int) bool { return within(temp, api.MinLnTemp, api.MaxLnTemp) }

// tempsError returns the error of a span of temperatures.
func tempsError(s api.Span) api.Errno {
	switch {
	case !isTemp(s.Lo) || !isTemp(s.Hi):
		return api.ErrRange
	case s.Lo > s.Hi:
		return api.ErrArg
	}
	return api.OK
}

func within(n, lo, hi int) bool { return lo <= n && n <= hi }

// modulo returns n modulo m, also for an n below 0.
func modulo(n, m int) int { return (n%m + m) % m }
