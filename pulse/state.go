package pulse

import (
	"slices"

	"quicksilver/api"
	"quicksilver/order"
)

// productHalf is the number of which products are at least the negative, and below it.
const productHalf = 1 << (2*api.OrBits - 1)

// none is the address of no word; it has no place.
const none = -1

// Check returns the part, the index in it and the error of a state.
func Check(s api.PuState) (part, at int, e api.Errno) {
	lists := api.OrState{Store: s.Store, Tape: s.Tape, Printed: s.Printed}
	part, at, e = order.Check(lists)
	switch {
	case e != api.OK:
		return part, at, e
	case !numbersStated(s):
		return 5, 0, api.ErrRange
	case (s.Count > 0) != (s.Phase == api.PuCount) || !orderBelongs(s):
		return 6, 0, api.ErrArg
	}
	return 0, 0, api.OK
}

// numbersStated reports whether all of a state but its words is as stated, each number for itself.
func numbersStated(s api.PuState) bool {
	return within(0, len(s.Tape), s.Taken) &&
		within(0, api.MaxOrTime, s.Clock) &&
		within(0, api.OrStore-1, s.At) &&
		within(api.PuFetch, api.PuWrite, s.Phase) &&
		within(0, api.OrWord-1, s.Order, s.Operand, s.Other) &&
		within(-productHalf, productHalf-1, s.Product) &&
		within(0, api.OrMulTime, s.Count) &&
		within(0, s.Clock, s.Done) &&
		within(api.OrGoing, api.OrLate, s.Why)
}

// orderBelongs reports whether the order of a state can be in its phase.
func orderBelongs(s api.PuState) bool {
	op := control{&s}.doing().Op
	switch s.Phase {
	case api.PuFrom:
		return within(api.OrMove, api.OrTest, op) || op == api.OrPrint && len(s.Printed) < api.MaxOrPrints
	case api.PuTo:
		return within(api.OrMove, api.OrMul, op) || op == api.OrRead && s.Taken < len(s.Tape)
	case api.PuCount, api.PuWrite:
		return op == api.OrMul
	}
	return true
}

// Start returns the state at the beginning of a state of layer 4.
func Start(s api.OrState) (api.PuState, api.Errno) {
	if _, _, e := order.Check(s); e != api.OK {
		return api.PuState{}, e
	}
	return fresh(api.PuState{
		Store: s.Store, Tape: s.Tape, Taken: s.Taken, Printed: s.Printed,
		Clock: s.Time, At: s.At, Done: s.Done, Why: s.Why,
	}), api.OK
}

// Order returns the state of layer 4 that a state is.
func Order(s api.PuState) (api.OrState, api.Errno) {
	if _, _, e := Check(s); e != api.OK {
		return api.OrState{}, e
	}
	time := s.Clock + wait(s.Clock, s.At)
	if s.Phase != api.PuFetch || time > api.MaxOrTime {
		return api.OrState{}, api.ErrDown
	}
	s = fresh(s)
	return api.OrState{
		Store: s.Store, Tape: s.Tape, Taken: s.Taken, Printed: s.Printed,
		Time: time, At: s.At, Done: s.Done, Why: s.Why,
	}, api.OK
}

// wait returns after how many minor cycles the word at an address comes by, from a minor cycle on.
func wait(clock, address int) int { return place(address - place(clock) + api.OrPlaces) }

// place returns the place of an address, and of the words that come by in a minor cycle.
func place(n int) int { return n % api.OrPlaces }

// signed returns a word as a number with a sign.
func signed(word int) int {
	n, _ := order.Signed(word)
	return n
}

// asWord returns the word that a number is, modulo all words.
func asWord(n int) int { return n & (api.OrWord - 1) }

// asProduct brings a number into the range of products, modulo all of them.
func asProduct(n int) int { return (n+productHalf)&(2*productHalf-1) - productHalf }

// bitOf returns a bit of a word.
func bitOf(word, bit int) int { return word >> bit & 1 }

// within reports whether all numbers are from lo to hi.
func within(lo, hi int, numbers ...int) bool {
	return !slices.ContainsFunc(numbers, func(n int) bool { return n < lo || n > hi })
}

// fresh returns a state in memory of its own.
func fresh(s api.PuState) api.PuState {
	s.Store, s.Tape, s.Printed = copied(s.Store), copied(s.Tape), copied(s.Printed)
	return s
}

// copied returns a list in memory of its own.
func copied[T any](list []T) []T { return append([]T(nil), list...) }
