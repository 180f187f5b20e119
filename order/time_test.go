package order_test

import (
	"math/rand"
	"testing"

	"quicksilver/api"
	"quicksilver/order"
)

// P4.2, with the chapter's examples.
func TestWhen(t *testing.T) {
	for _, c := range []struct {
		o         api.OrOrder
		time      int
		negative  bool
		at, until int
	}{
		{op(4, 1, 2, 3), 0, false, 3, 19},
		{op(6, 0, 5, 8), 0, false, 8, 8},
		{op(5, 5, 12, 10), 8, false, 10, 26},
		{op(5, 5, 12, 10), 8, true, 12, 28},
		{op(2, 5, 14, 0), 26, false, 0, 48},
		{op(7, 14, 0, 13), 124, false, 13, 141},
		// As fast and as slow as can be, by kind.
		{op(1, 1, 2, 3), 0, false, 3, 3},
		{op(1, 0, 0, 0), 0, false, 0, 48},
		{op(2, 17, 34, 51), 0, true, 51, 3},
		{op(3, 5, 5, 5), 5, true, 5, 53},
		{op(4, 1, 1, 1), 0, false, 1, 49},
		{op(4, 0, 0, 0), 0, false, 0, 64},
		{op(5, 1, 2, 2), 0, true, 2, 2},
		{op(5, 0, 0, 1), 0, true, 0, 32},
		{op(5, 0, 0, 1), 0, false, 1, 17},
		{op(6, 0, 1, 2), 0, false, 2, 2},
		{op(6, 0, 0, 0), 0, false, 0, 32},
		{op(7, 1, 0, 2), 0, true, 2, 2},
		{op(7, 0, 1, 0), 0, true, 0, 32},
		// Only what an order reads or writes makes it wait, and only OrTest minds a sign.
		{op(6, 15, 1, 2), 0, true, 2, 2},
		{op(7, 1, 15, 2), 0, true, 2, 2},
		{op(1, 1, 2, 3), 0, true, 3, 3},
		{op(4, 1, 2, 3), 0, true, 3, 19},
		// An order is taken at whatever address, and at any time.
		{op(6, 0, 5, 8), 3, false, 8, 8},
		{op(6, 0, 5, 8), 5, false, 8, 24},
		{op(1, 0, 0, 0), api.MaxOrTime, false, 0, api.MaxOrTime + 48},
		{op(7, 127, 0, 127), api.MaxOrTime, false, 127, api.MaxOrTime + 31},
	} {
		at, until, e := order.When(c.o, c.time, c.negative)
		if at != c.at || until != c.until || e != api.OK {
			t.Errorf("When of %v at %d: %d, %d, %d, not %d, %d", c.o, c.time, at, until, e, c.at, c.until)
		}
	}
}

// P4.2: a number that is not as stated is named before an order that halts.
func TestWhenErrors(t *testing.T) {
	for _, c := range []struct {
		o    api.OrOrder
		time int
		e    api.Errno
	}{
		{op(0, 1, 2, 3), 0, api.ErrArg},
		{op(0, 127, 127, 127), api.MaxOrTime, api.ErrArg},
		{op(0, 1, 2, 3), -1, api.ErrRange},
		{op(0, 128, 2, 3), 0, api.ErrRange},
		{op(0, 1, -1, 3), 0, api.ErrRange},
		{op(0, 1, 2, 128), 0, api.ErrRange},
		{op(-1, 1, 2, 3), 0, api.ErrRange},
		{op(8, 1, 2, 3), 0, api.ErrRange},
		{op(1, -1, 2, 3), 0, api.ErrRange},
		{op(6, 128, 2, 3), 0, api.ErrRange},
		{op(7, 1, 128, 3), 0, api.ErrRange},
		{op(1, 1, 2, -1), 0, api.ErrRange},
		{op(1, 1, 2, 3), -1, api.ErrRange},
		{op(1, 1, 2, 3), api.MaxOrTime + 1, api.ErrRange},
	} {
		at, until, e := order.When(c.o, c.time, true)
		if at != 0 || until != 0 || e != c.e {
			t.Errorf("When of %v at %d: %d, %d, %d, not %d", c.o, c.time, at, until, e, c.e)
		}
	}
}

// P4.9 and P4.2 against the definition, for all kinds of orders, all places and both signs.
func TestTimes(t *testing.T) {
	least, most := [8]int{1: 3, 3, 3, 16, 2, 2, 2}, [8]int{1: 48, 48, 48, 76, 32, 32, 32}
	r := rand.New(rand.NewSource(1))
	for n := range 7 << 16 {
		o, time := op(1+n>>16, n>>12&15, n>>8&15, n>>4&15), n&15+16*r.Intn(1000)
		negative := r.Intn(2) == 0
		at, until, e := order.When(o, time, negative)
		wantAt, wantUntil := plainTimes(o, time, negative)
		if at != wantAt || until != wantUntil || e != api.OK {
			t.Fatalf("When of %v at %d: %d, %d, %d, not %d, %d", o, time, at, until, e, wantAt, wantUntil)
		}
		if took := until - time; took < least[o.Op] || took > most[o.Op] || until%16 != at%16 {
			t.Fatalf("%v takes %d from %d on, to %d", o, took, time, at)
		}
		moved := op(o.Op, o.From+16*r.Intn(8), o.To+16*r.Intn(8), o.Next+16*r.Intn(8))
		if at, again, _ := order.When(moved, time, negative); again != until || at%16 != until%16 {
			t.Fatalf("%v is done at %d, but %v at %d", o, until, moved, again)
		}
	}
}
