package line

import "quicksilver/api"

// Can returns what can have become of words after rounds at temperatures within spans.
func Can(l api.LnLine, temps []api.Span) (api.LnCan, api.Errno) {
	if e := canError(l, temps); e != api.OK {
		return api.LnCan{}, e
	}
	lost := false
	late := numbersBelow(beats(l))
	late.add(0)
	for _, span := range temps {
		can := roundsWithin(l, span)
		lost = lost || can[round{lost: true}]
		late = laterBy(late, can, beats(l))
	}
	return api.LnCan{Shifts: late.list(), Lost: lost}, api.OK
}

// canError returns the error of what Can is given.
func canError(l api.LnLine, temps []api.Span) api.Errno {
	if e := Check(l); e != api.OK {
		return e
	}
	if len(temps) > api.MaxLnRounds {
		return api.ErrLong
	}
	for _, span := range temps {
		if e := tempsError(span); e != api.OK {
			return e
		}
	}
	return api.OK
}

// roundsWithin returns the rounds that there can be at the temperatures of a span, with shifts modulo the beats.
func roundsWithin(l api.LnLine, span api.Span) map[round]bool {
	can := map[round]bool{}
	for temp := span.Lo; temp <= span.Hi; temp++ {
		r := roundAt(l, temp)
		r.shift = modulo(r.shift, beats(l))
		can[r] = true
	}
	return can
}

// laterBy returns the sums of a number of late and a shift of the rounds, modulo the beats.
func laterBy(late numbers, can map[round]bool, beats int) numbers {
	sums := numbersBelow(2 * beats)
	for r := range can {
		if !r.lost {
			sums.addMoved(late, r.shift)
		}
	}
	after := numbersBelow(beats)
	for _, n := range sums.list() {
		after.add(n % beats)
	}
	return after
}

// numbers is a set of numbers: n belongs to it if the bit n%64 of the word n/64 is set.
// There can be thousands of numbers and as many shifts in each of 60 rounds, so sums are formed 64 at a time.
type numbers []uint64

// numbersBelow returns an empty set with room for all numbers below a limit, and for one word that is moved in behind them.
func numbersBelow(limit int) numbers { return make(numbers, limit/64+2) }

func (s numbers) add(n int) { s[n/64] |= 1 << (n % 64) }

// addMoved adds the numbers of another set, each of them greater by a distance.
func (s numbers) addMoved(other numbers, by int) {
	first, bits := by/64, by%64
	for i, word := range other {
		if word != 0 {
			s[first+i] |= word << bits
			s[first+i+1] |= word >> (64 - bits)
		}
	}
}

// list returns the numbers of a set, ascending.
func (s numbers) list() []int {
	var all []int
	for n := range 64 * len(s) {
		if s[n/64]>>(n%64)&1 == 1 {
			all = append(all, n)
		}
	}
	return all
}
