package line_test

import (
	"math/rand"
	"testing"

	"quicksilver/api"
	"quicksilver/line"
)

// P1.7
func TestOven(t *testing.T) {
	for _, c := range []struct {
		temp    api.Span
		heats   bool
		minutes int
		want    api.Span
	}{
		{span(25, 25), false, 3, span(17, 25)},
		{span(25, 25), false, 200, span(17, 34)},
		{span(25, 25), false, 0, span(25, 25)},
		{span(-500, 1000), true, 0, span(-500, 1000)},
		{span(25, 25), false, 1, span(22, 25)},
		{span(25, 25), true, 1, span(25, 29)},
		{span(20, 20), false, 1, span(17, 20)},
		{span(19, 19), false, 1, span(19, 23)},
		{span(30, 30), true, 1, span(30, 34)},
		{span(31, 31), true, 1, span(28, 31)},
		{span(25, 31), true, 1, span(25, 34)},
		{span(40, 40), true, 4, span(28, 40)},
	} {
		if s, e := line.Oven(ovenO(), c.temp, c.heats, c.minutes); s != c.want || e != api.OK {
			t.Errorf("Oven from %v on, %v, %d minutes: %v, %d", c.temp, c.heats, c.minutes, s, e)
		}
	}
	wild := api.LnOven{Low: -500, High: 1000, Warm: span(100, 100), Cool: span(100, 100)}
	if s, e := line.Oven(wild, span(1000, 1000), true, 1); s != span(1000, 1100) || e != api.OK {
		t.Errorf("Oven that leaves the range: %v, %d", s, e)
	}
	still := api.LnOven{Low: 0, High: 0}
	if s, e := line.Oven(still, span(7, 9), true, 200); s != span(7, 9) || e != api.OK {
		t.Errorf("Oven that changes nothing: %v, %d", s, e)
	}
}

// P1.7
func TestKeeps(t *testing.T) {
	slow := api.LnOven{Low: -2, High: 0, Warm: span(1, 1), Cool: span(1, 1)}
	fast := api.LnOven{Low: -2, High: 0, Warm: span(1, 1), Cool: span(2, 2)}
	never, always := lineA(), lineA()
	never.Delay, never.Slope = 324, 0
	always.Slope = 0
	hot := api.LnOven{Low: 0, High: 1000, Warm: span(60, 60)}
	for _, c := range []struct {
		l       api.LnLine
		o       api.LnOven
		temp    api.Span
		heats   bool
		minutes int
		want    int
	}{
		{lineA(), slow, span(0, 0), false, 200, -1},
		{lineA(), fast, span(0, 0), false, 200, 2},
		{lineA(), fast, span(0, 0), false, 2, 2},
		{lineA(), fast, span(0, 0), false, 1, -1},
		{lineA(), slow, span(3, 3), false, 0, -1},
		{lineA(), slow, span(-3, 4), false, 0, 0},
		{lineA(), slow, span(-4, -4), false, 200, 0},
		{lineA(), slow, span(-2, 0), true, 200, -1},
		{lineA(), api.LnOven{Low: -2, High: 1, Warm: span(1, 2), Cool: span(1, 1)}, span(0, 0), true, 200, -1},
		{lineA(), api.LnOven{Low: -2, High: 2, Warm: span(1, 2), Cool: span(1, 1)}, span(0, 0), true, 200, 2},
		{never, slow, span(0, 0), false, 200, 0},
		{always, slow, span(-500, 1000), false, 200, -1},
		// A line that is safe at all temperatures is not safe above the last one.
		{always, hot, span(900, 900), true, 200, 2},
	} {
		if n, e := line.Keeps(c.l, c.o, c.temp, c.heats, c.minutes); n != c.want || e != api.OK {
			t.Errorf("Keeps of %v with %v from %v on, %v, %d minutes: %d, %d", c.l, c.o, c.temp, c.heats, c.minutes, n, e)
		}
	}
}

// P1.7: the errors, and their order.
func TestOvenErrors(t *testing.T) {
	good := span(0, 0)
	for _, c := range []struct {
		o       api.LnOven
		temp    api.Span
		minutes int
		e       api.Errno
	}{
		{api.LnOven{Low: -501}, good, 0, api.ErrRange},
		{api.LnOven{Low: 1001, High: 1001}, good, 0, api.ErrRange},
		{api.LnOven{High: 1001}, good, 0, api.ErrRange},
		{api.LnOven{Low: -501, High: -501}, good, 0, api.ErrRange},
		{api.LnOven{Warm: span(-1, 0)}, good, 0, api.ErrRange},
		{api.LnOven{Warm: span(0, 101)}, good, 0, api.ErrRange},
		{api.LnOven{Cool: span(-1, 0)}, good, 0, api.ErrRange},
		{api.LnOven{Cool: span(101, 0)}, good, 0, api.ErrRange},
		{api.LnOven{Low: 2, High: 1, Cool: span(0, 101)}, good, 0, api.ErrRange},
		{api.LnOven{Warm: span(2, 1), Cool: span(0, -1)}, good, 0, api.ErrRange},
		{api.LnOven{Low: 2, High: 1}, span(-501, 0), -1, api.ErrArg},
		{api.LnOven{Warm: span(2, 1)}, span(-501, 0), 0, api.ErrArg},
		{api.LnOven{Cool: span(2, 1)}, good, 201, api.ErrArg},
		{ovenO(), span(0, 1001), 0, api.ErrRange},
		{ovenO(), span(1, -501), 0, api.ErrRange},
		{ovenO(), span(1, 0), -1, api.ErrArg},
		{ovenO(), good, -1, api.ErrRange},
		{ovenO(), good, 201, api.ErrRange},
		{ovenO(), good, 200, api.OK},
		{api.LnOven{Low: -500, High: 1000, Warm: span(0, 100), Cool: span(100, 100)}, span(-500, 1000), 0, api.OK},
	} {
		s, e := line.Oven(c.o, c.temp, false, c.minutes)
		n, f := line.Keeps(lineA(), c.o, c.temp, false, c.minutes)
		if e != c.e || f != c.e || e != api.OK && (s != span(0, 0) || n != 0) {
			t.Errorf("with %v from %v on, %d minutes: %v, %d; %d, %d", c.o, c.temp, c.minutes, s, e, n, f)
		}
	}
}

// spot is a temperature, and whether the oven heated in the minute before.
type spot struct {
	temp  int
	heats bool
}

// plainMinutes returns for each minute all that can be then, by the definition.
func plainMinutes(o api.LnOven, temp api.Span, heats bool, minutes int) []map[spot]bool {
	now := map[spot]bool{}
	for t := temp.Lo; t <= temp.Hi; t++ {
		now[spot{t, heats}] = true
	}
	all := []map[spot]bool{now}
	for range minutes {
		next := map[spot]bool{}
		for s := range now {
			if s.temp < o.Low || s.temp <= o.High && s.heats {
				for d := o.Warm.Lo; d <= o.Warm.Hi; d++ {
					next[spot{s.temp + d, true}] = true
				}
			} else {
				for d := o.Cool.Lo; d <= o.Cool.Hi; d++ {
					next[spot{s.temp - d, false}] = true
				}
			}
		}
		now = next
		all = append(all, now)
	}
	return all
}

// P1.7 against the definition.
func TestOvenPlain(t *testing.T) {
	r := rand.New(rand.NewSource(7))
	for range 1500 {
		o, temp, heats, minutes := someOven(r), someSpan(r, -8, 8), r.Intn(2) == 0, r.Intn(12)
		l := lineA()
		l.Window = r.Intn(5)
		l.Slope = r.Intn(2)
		lo, hi, doubt := temp.Lo, temp.Hi, -1
		for minute, all := range plainMinutes(o, temp, heats, minutes) {
			for s := range all {
				lo, hi = min(lo, s.temp), max(hi, s.temp)
				if shift, lost := plainShift(l, s.temp); doubt == -1 && (lost || shift != 0) {
					doubt = minute
				}
			}
		}
		got, e := line.Oven(o, temp, heats, minutes)
		n, f := line.Keeps(l, o, temp, heats, minutes)
		if got != span(lo, hi) || e != api.OK || n != doubt || f != api.OK {
			t.Fatalf("%v from %v on, %v, %d minutes: %v, %d; %d, %d, not %d to %d; %d", o, temp, heats, minutes, got, e, n, f, lo, hi, doubt)
		}
	}
}

// P1.13: with any numbers the temperature stays in the span, and a line that is not doubted stays safe.
func TestOvenTheorem(t *testing.T) {
	r := rand.New(rand.NewSource(13))
	for range 1500 {
		o, temp, heats, minutes := someOven(r), someSpan(r, -8, 8), r.Intn(2) == 0, r.Intn(201)
		l := lineA()
		l.Period, l.Window, l.Delay = 100, 30, 3200
		within, _ := line.Oven(o, temp, heats, minutes)
		doubt, _ := line.Keeps(l, o, temp, heats, minutes)
		now := spot{temp.Lo + r.Intn(temp.Hi-temp.Lo+1), heats}
		for minute := range minutes + 1 {
			shift, lost, _ := line.Shift(l, now.temp)
			if now.temp < within.Lo || now.temp > within.Hi || (lost || shift != 0) && (doubt == -1 || doubt > minute) {
				t.Fatalf("%v from %v on, %v: %d after %d minutes; %v, %d", o, temp, heats, now.temp, minute, within, doubt)
			}
			if now.temp < o.Low || now.temp <= o.High && now.heats {
				now = spot{now.temp + o.Warm.Lo + r.Intn(o.Warm.Hi-o.Warm.Lo+1), true}
			} else {
				now = spot{now.temp - o.Cool.Lo - r.Intn(o.Cool.Hi-o.Cool.Lo+1), false}
			}
		}
	}
}
