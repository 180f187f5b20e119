package line_test

import (
	"math/rand"
	"slices"
	"strings"
	"testing"

	"quicksilver/api"
	"quicksilver/line"
)

// P1.1
func TestName(t *testing.T) {
	good := []string{"a", "z", "a0", "z9", "a_b", "a__0", "tank_12", strings.Repeat("q", 20)}
	bad := []string{"", "_", "a_", "_a", "0", "9a", "A", "aB", "a b", " a", "a ", "a-b", "a.b", "ä", "aä", "a\n", "a\x00", "\xff", "a`", "a{", "a/", "a:", "a@", strings.Repeat("q", 21), strings.Repeat("q", 20) + "_"}
	for _, s := range good {
		if !line.Name(s) {
			t.Errorf("%q is a name", s)
		}
	}
	for _, s := range bad {
		if line.Name(s) {
			t.Errorf("%q is no name", s)
		}
	}
}

// P1.1, for each single byte, and for each byte behind and between letters.
func TestNameBytes(t *testing.T) {
	for b := range 256 {
		c := string([]byte{byte(b)})
		letter := strings.Contains("abcdefghijklmnopqrstuvwxyz", c)
		digit := strings.Contains("0123456789", c)
		if line.Name(c) != letter || line.Name("a"+c) != (letter || digit) || line.Name("a"+c+"a") != (letter || digit || c == "_") {
			t.Errorf("the byte %d", b)
		}
	}
}

// P1.2
func TestCheckEnds(t *testing.T) {
	good := []api.LnLine{
		lineA(),
		{Words: 1, Bits: 1, Period: 2, Delay: 0, Slope: -api.MaxLnSlope, Window: 0},
		{Words: 64, Bits: 40, Period: 100000, Delay: 1000000000, Slope: api.MaxLnSlope, Window: 49999},
		{Words: 1, Bits: 1, Period: 99999, Window: 49999},
		{Words: 1, Bits: 1, Period: 3, Window: 1},
	}
	for _, l := range good {
		if e := line.Check(l); e != api.OK {
			t.Errorf("Check of %v: %d", l, e)
		}
	}
	bad := append(badLines(),
		api.LnLine{Words: 1, Bits: 1, Period: 2, Window: 1},
		api.LnLine{Words: 1, Bits: 1, Period: 3, Window: 2},
		api.LnLine{Words: 1, Bits: 1, Period: 100000, Window: 50000},
		api.LnLine{})
	for _, l := range bad {
		if e := line.Check(l); e != api.ErrRange {
			t.Errorf("Check of %v: %d", l, e)
		}
	}
}

// P1.2 to P1.8: the error of a line comes before all others, and all else is zero with it.
func TestLineFirst(t *testing.T) {
	for _, l := range badLines() {
		shift, lost, e := line.Shift(l, 5000)
		if shift != 0 || lost || e != api.ErrRange {
			t.Errorf("Shift with %v: %d, %v, %d", l, shift, lost, e)
		}
		if s, e := line.Safe(l); s != span(0, 0) || e != api.ErrRange {
			t.Errorf("Safe of %v: %v, %d", l, s, e)
		}
		if w, at, e := line.Pass(l, nil, make([]int, 61)); len(w) > 0 || at != 0 || e != api.ErrRange {
			t.Errorf("Pass with %v: %v, %d, %d", l, w, at, e)
		}
		if c, e := line.Can(l, make([]api.Span, 61)); len(c.Shifts) > 0 || c.Lost || e != api.ErrRange {
			t.Errorf("Can with %v: %v, %d", l, c, e)
		}
		if b, e := line.Next(l, 0, 0); b != 0 || e != api.ErrRange {
			t.Errorf("Next with %v: %d, %d", l, b, e)
		}
		if n, e := line.Keeps(l, api.LnOven{Low: 1}, span(1, 0), false, 0); n != 0 || e != api.ErrRange {
			t.Errorf("Keeps with %v: %d, %d", l, n, e)
		}
		if f, e := line.Write(l, nil); len(f) > 0 || e != api.ErrRange {
			t.Errorf("Write with %v: %v, %d", l, f, e)
		}
	}
}

// P1.2: the example, the ends of Window, and temperatures out of their range.
func TestShift(t *testing.T) {
	const none = 12345
	for temp, want := range map[int]int{3: 0, 8: 1, -8: -1, 5: none, -3: 0, 4: none, 6: none, 7: 1, 13: 1, 14: none, -4: none, -6: none, -7: -1, 0: 0, 1000: 100, -500: -50} {
		shift, lost, e := line.Shift(lineA(), temp)
		if lost && shift == 0 {
			shift = none
		}
		if shift != want || e != api.OK {
			t.Errorf("Shift at %d: %d, %v, %d", temp, shift, lost, e)
		}
	}
	for _, temp := range extremes() {
		shift, lost, e := line.Shift(lineA(), temp)
		stated := temp >= api.MinLnTemp && temp <= api.MaxLnTemp
		if stated != (e == api.OK) || !stated && (shift != 0 || lost || e != api.ErrRange) {
			t.Errorf("Shift at %d: %d, %v, %d", temp, shift, lost, e)
		}
	}
}

// P1.2, for lines of all sizes, against the definition.
func TestShiftPlain(t *testing.T) {
	r := rand.New(rand.NewSource(2))
	for i := range 20000 {
		l := someLine(r)
		if i%2 == 0 {
			l = api.LnLine{Words: 1 + r.Intn(64), Bits: 1 + r.Intn(40), Period: 2 + r.Intn(99999), Delay: r.Intn(1000000001), Slope: r.Intn(200001) - 100000}
			l.Window = r.Intn((l.Period + 1) / 2)
		}
		temp := r.Intn(1501) - 500
		shift, lost, e := line.Shift(l, temp)
		s, none := plainShift(l, temp)
		if shift != s || lost != none || e != api.OK {
			t.Fatalf("Shift of %v at %d: %d, %v, %d, not %d, %v", l, temp, shift, lost, e, s, none)
		}
	}
}

// P1.3
func TestSafe(t *testing.T) {
	for _, c := range []struct {
		delay, slope, window int
		want                 api.Span
		e                    api.Errno
	}{
		{320, 1, 3, span(-3, 3), api.OK},
		{320, 1, 0, span(0, 0), api.OK},
		{320, 0, 3, span(-500, 1000), api.OK},
		{323, 0, 3, span(-500, 1000), api.OK},
		{324, 0, 3, span(0, 0), api.ErrDown},
		{316, 0, 3, span(0, 0), api.ErrDown},
		{320, -2, 3, span(-1, 1), api.OK},
		{325, 10, 3, span(0, 0), api.ErrDown},
		{823, 1, 3, span(-500, -500), api.OK},
		{824, 1, 3, span(0, 0), api.ErrDown},
		{1323, -1, 3, span(1000, 1000), api.OK},
		{1324, -1, 3, span(0, 0), api.ErrDown},
	} {
		l := lineA()
		l.Delay, l.Slope, l.Window = c.delay, c.slope, c.window
		if s, e := line.Safe(l); s != c.want || e != c.e {
			t.Errorf("Safe of %v: %v, %d", l, s, e)
		}
	}
}

// P1.3 and P1.9: a line is safe at all temperatures of Safe, and at no other one; there it changes all but words that look alike.
func TestSafeEverywhere(t *testing.T) {
	r := rand.New(rand.NewSource(3))
	for range 60 {
		l := someLine(r)
		safe, e := line.Safe(l)
		one := make([]int, l.Words)
		one[0] = 1
		for temp := api.MinLnTemp; temp <= api.MaxLnTemp; temp++ {
			shift, lost := plainShift(l, temp)
			if inside := e == api.OK && safe.Lo <= temp && temp <= safe.Hi; inside != (!lost && shift == 0) {
				t.Fatalf("Safe of %v: %v, %d; but at %d: %d, %v", l, safe, e, temp, shift, lost)
			}
			after, _, _ := line.Pass(l, one, []int{temp})
			if stays := !lost && shift%(l.Words*l.Bits) == 0; stays != slices.Equal(after, one) {
				t.Fatalf("Pass of %v at %d: %v", l, temp, after)
			}
		}
	}
}

// P1.6
func TestNext(t *testing.T) {
	for _, c := range []struct {
		word, beat, want int
		e                api.Errno
	}{
		{2, 15, 16, api.OK}, {2, 16, 48, api.OK}, {2, 0, 16, api.OK}, {0, 0, 32, api.OK}, {0, 31, 32, api.OK}, {0, 32, 64, api.OK}, {3, 24, 56, api.OK}, {3, 23, 24, api.OK},
		{3, api.MaxLnDelay, api.MaxLnDelay + 24, api.OK}, {0, api.MaxLnDelay, api.MaxLnDelay + 32, api.OK},
		{4, 0, 0, api.ErrRange}, {-1, 0, 0, api.ErrRange}, {0, -1, 0, api.ErrRange}, {0, api.MaxLnDelay + 1, 0, api.ErrRange},
	} {
		if n, e := line.Next(lineA(), c.word, c.beat); n != c.want || e != c.e {
			t.Errorf("Next of %d after %d: %d, %d", c.word, c.beat, n, e)
		}
	}
	for _, n := range extremes() {
		_, e := line.Next(lineA(), n, 0)
		_, f := line.Next(lineA(), 0, n)
		if (e == api.OK) != (n >= 0 && n < 4) || (f == api.OK) != (n >= 0 && n <= api.MaxLnDelay) {
			t.Errorf("Next with %d: %d; %d", n, e, f)
		}
	}
}

// P1.12, beat by beat.
func TestNextBeats(t *testing.T) {
	r := rand.New(rand.NewSource(12))
	for range 300 {
		l := someLine(r)
		all := l.Words * l.Bits
		word, beat := r.Intn(l.Words), r.Intn(4*all)
		next, e := line.Next(l, word, beat)
		if e != api.OK || next <= beat || next > beat+all || next%all != word*l.Bits {
			t.Fatalf("Next of %v, %d after %d: %d, %d", l, word, beat, next, e)
		}
		for b := beat + 1; b < next; b++ {
			if b%all == word*l.Bits {
				t.Fatalf("the word %d of %v begins at %d already", word, l, b)
			}
		}
	}
}
