package order_test

import (
	"testing"

	"quicksilver/api"
	"quicksilver/order"
)

// P4.1, with the chapter's examples.
func TestEncode(t *testing.T) {
	for _, c := range []struct {
		o    api.OrOrder
		word int
		e    api.Errno
	}{
		{op(6, 0, 5, 8), 12583560, api.OK},
		{op(5, 5, 12, 10), 10569226, api.OK},
		{op(2, 5, 14, 0), 4278016, api.OK},
		{op(7, 14, 0, 13), 14909453, api.OK},
		{op(0, 0, 0, 0), 0, api.OK},
		{op(1, 0, 0, 0), 1 << 21, api.OK},
		{op(0, 1, 0, 0), 1 << 14, api.OK},
		{op(0, 0, 1, 0), 1 << 7, api.OK},
		{op(0, 0, 0, 1), 1, api.OK},
		{op(7, 127, 127, 127), api.OrWord - 1, api.OK},
		{op(-1, 0, 0, 0), 0, api.ErrRange},
		{op(8, 0, 0, 0), 0, api.ErrRange},
		{op(0, -1, 0, 0), 0, api.ErrRange},
		{op(0, 128, 0, 0), 0, api.ErrRange},
		{op(0, 0, -1, 0), 0, api.ErrRange},
		{op(0, 0, 128, 0), 0, api.ErrRange},
		{op(0, 0, 0, -1), 0, api.ErrRange},
		{op(0, 0, 0, 128), 0, api.ErrRange},
	} {
		if word, e := order.Encode(c.o); word != c.word || e != c.e {
			t.Errorf("Encode of %v: %d, %d, not %d, %d", c.o, word, e, c.word, c.e)
		}
		if o, e := order.Decode(c.word); c.e == api.OK && (o != c.o || e != api.OK) {
			t.Errorf("Decode of %d: %v, %d, not %v", c.word, o, e, c.o)
		}
	}
}

// P4.1: numbers that are no words.
func TestNoWords(t *testing.T) {
	for _, n := range extremes() {
		want := api.OK
		if n < 0 || n > 16777215 {
			want = api.ErrRange
		}
		if o, e := order.Decode(n); e != want || e != api.OK && o != op(0, 0, 0, 0) {
			t.Errorf("Decode of %d: %v, %d, not %d", n, o, e, want)
		}
		if s, e := order.Signed(n); e != want || e != api.OK && s != 0 {
			t.Errorf("Signed of %d: %d, %d, not %d", n, s, e, want)
		}
	}
}

// P4.1, with the chapter's examples.
func TestSigned(t *testing.T) {
	for _, c := range []struct{ word, want int }{
		{0, 0}, {1, 1}, {8388607, 8388607}, {8388608, -8388608}, {8388609, -8388607}, {16777214, -2}, {16777215, -1},
	} {
		if n, e := order.Signed(c.word); n != c.want || e != api.OK {
			t.Errorf("Signed of %d: %d, %d, not %d", c.word, n, e, c.want)
		}
	}
}

// P4.6 and P4.1 against the definition, for words and orders all over their range.
func TestWordsAndOrders(t *testing.T) {
	for word := 0; word < api.OrWord; word += 61 {
		o, e := order.Decode(word)
		if o != plainOrder(word) || e != api.OK {
			t.Fatalf("Decode of %d: %v, %d", word, o, e)
		}
		if back, e := order.Encode(o); back != word || e != api.OK {
			t.Fatalf("Encode of %v: %d, %d, not %d", o, back, e, word)
		}
		if n, e := order.Signed(word); n != plainSigned(word) || e != api.OK {
			t.Fatalf("Signed of %d: %d, %d", word, n, e)
		}
	}
	edges := []int{0, 1, 2, 15, 16, 31, 32, 63, 64, 126, 127}
	for what := range 8 {
		for _, from := range edges {
			for _, to := range edges {
				for _, next := range edges {
					o := op(what, from, to, next)
					word, e := order.Encode(o)
					if word != plainWord(o) || e != api.OK {
						t.Fatalf("Encode of %v: %d, %d", o, word, e)
					}
					if back, e := order.Decode(word); back != o || e != api.OK {
						t.Fatalf("Decode of %d: %v, %d, not %v", word, back, e, o)
					}
				}
			}
		}
	}
}
