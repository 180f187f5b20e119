package order

import (
	"iter"

	"quicksilver/api"
)

// When returns the address of the next order, and when it is taken.
func When(o api.OrOrder, time int, negative bool) (at, until int, e api.Errno) {
	switch {
	case !isOrder(o) || !isTime(time):
		return 0, 0, api.ErrRange
	case o.Op == api.OrHalt:
		return 0, 0, api.ErrArg
	}
	at, until = following(o, time, negative)
	return at, until, api.OK
}

// following returns the address of the order after another one, and when it is taken; with OrHalt this means nothing.
func following(o api.OrOrder, time int, negative bool) (at, until int) {
	for address, cycle := range comings(o, time, negative) {
		at, until = address, cycle
	}
	return at, until
}

// comings yields the addresses of the words that come by for an order, with the minor cycles in which they do; the last one is the next order.
func comings(o api.OrOrder, time int, negative bool) iter.Seq2[int, int] {
	return func(yield func(int, int) bool) {
		cycle := time
		for _, w := range waits(o, negative) {
			cycle = after(cycle+w.busy, w.address)
			if !yield(w.address, cycle) {
				return
			}
		}
	}
}

// wait is that the machine waits for the word at an address, once it has been busy for some minor cycles.
type wait struct{ address, busy int }

// waits returns what an order waits for, one after the other.
func waits(o api.OrOrder, negative bool) []wait {
	from, to, next := wait{address: o.From}, wait{address: o.To}, wait{address: o.Next}
	switch o.Op {
	case api.OrRead:
		return []wait{to, next}
	case api.OrMul:
		return []wait{from, to, {address: o.To, busy: api.OrMulTime}, next}
	case api.OrTest:
		if negative {
			return []wait{from, to}
		}
		fallthrough
	case api.OrPrint:
		return []wait{from, next}
	}
	return []wait{from, to, next}
}

// after returns the least minor cycle after one in which the word at an address comes by.
func after(cycle, address int) int { return notBefore(cycle+1, address) }

// notBefore returns the least minor cycle, from one on, in which the word at an address comes by.
func notBefore(cycle, address int) int {
	return cycle + place(address-place(cycle)+api.OrPlaces)
}

// place returns the place of an address, and of the words that come by in a minor cycle.
func place(n int) int { return n % api.OrPlaces }
