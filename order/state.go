package order

import (
	"slices"

	"quicksilver/api"
)

// Check returns the part, the index in it and the error of a state.
func Check(s api.OrState) (part, at int, e api.Errno) {
	if len(s.Store) != api.OrStore || len(s.Tape) > api.MaxOrTape || len(s.Printed) > api.MaxOrPrints {
		return 1, 0, api.ErrLong
	}
	for i, words := range [][]int{s.Store, s.Tape, s.Printed} {
		if at := outside(0, api.OrWord-1, words...); at >= 0 {
			return 2 + i, at, api.ErrRange
		}
	}
	if !numbersStated(s) {
		return 5, 0, api.ErrRange
	}
	if place(s.Time) != place(s.At) {
		return 6, 0, api.ErrArg
	}
	return 0, 0, api.OK
}

// numbersStated reports whether all of a state but its words is as stated.
func numbersStated(s api.OrState) bool {
	return outside(0, len(s.Tape), s.Taken) < 0 &&
		isTime(s.Time) &&
		isAddress(s.At) &&
		outside(0, s.Time, s.Done) < 0 &&
		outside(api.OrGoing, api.OrLate, s.Why) < 0
}

// Begin returns the state with which a run begins.
func Begin(store, tape []int, start int) (api.OrState, api.Errno) {
	if len(store) > api.OrStore || len(tape) > api.MaxOrTape {
		return api.OrState{}, api.ErrLong
	}
	if outside(0, api.OrWord-1, store...) >= 0 || outside(0, api.OrWord-1, tape...) >= 0 || !isAddress(start) {
		return api.OrState{}, api.ErrRange
	}
	s := api.OrState{Store: make([]int, api.OrStore), Tape: slices.Clone(tape), At: start, Time: notBefore(0, start)}
	copy(s.Store, store)
	return s, api.OK
}
