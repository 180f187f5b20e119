package line_test

import (
	"math"
	"math/rand"
	"reflect"
	"slices"
	"testing"

	"quicksilver/api"
	"quicksilver/line"
)

// anyInt returns a number that is as stated now and then, and far beyond it otherwise.
func anyInt(r *rand.Rand) int {
	switch r.Intn(4) {
	case 0:
		all := extremes()
		return all[r.Intn(len(all))]
	case 1:
		return int(r.Uint64())
	}
	return r.Intn(70) - 3
}

func anyInts(r *rand.Rand) []int {
	list := make([]int, r.Intn(70))
	for i := range list {
		list[i] = anyInt(r)
	}
	return list
}

// anyLine returns a line of which some numbers are not as stated.
func anyLine(r *rand.Rand) api.LnLine {
	l := someLine(r)
	for _, n := range []*int{&l.Words, &l.Bits, &l.Period, &l.Delay, &l.Slope, &l.Window} {
		if r.Intn(8) == 0 {
			*n = anyInt(r)
		}
	}
	return l
}

// P1.15 and P1: whatever the arguments, the calls come back, and with an error all else is zero.
func TestAnyArguments(t *testing.T) {
	r := rand.New(rand.NewSource(1))
	for range 20000 {
		l := anyLine(r)
		o := api.LnOven{Low: anyInt(r), High: anyInt(r), Warm: span(anyInt(r), anyInt(r)), Cool: span(anyInt(r), anyInt(r))}
		temp, list := span(anyInt(r), anyInt(r)), anyInts(r)
		spans := []api.Span{temp, span(anyInt(r), anyInt(r))}
		text := make([]byte, r.Intn(450))
		r.Read(text)
		line.Name(string(text))
		shift, lost, e := line.Shift(l, anyInt(r))
		zero(t, "Shift", e, shift, lost)
		safe, e := line.Safe(l)
		zero(t, "Safe", e, safe)
		after, at, e := line.Pass(l, list, list)
		zero(t, "Pass", e, len(after), at)
		can, e := line.Can(l, spans)
		zero(t, "Can", e, len(can.Shifts), can.Lost)
		beat, e := line.Next(l, anyInt(r), anyInt(r))
		zero(t, "Next", e, beat)
		within, e := line.Oven(o, temp, r.Intn(2) == 0, anyInt(r))
		zero(t, "Oven", e, within)
		minutes, e := line.Keeps(l, o, temp, r.Intn(2) == 0, anyInt(r))
		zero(t, "Keeps", e, minutes)
		file, e := line.Write(l, list)
		zero(t, "Write", e, len(file))
		count, bits, words, e := line.Read(text)
		zero(t, "Read", e, count, bits, len(words))
	}
}

// zero fails if there is an error, and a result is not zero.
func zero(t *testing.T, call string, e api.Errno, results ...any) {
	t.Helper()
	for _, x := range results {
		if e != api.OK && !reflect.ValueOf(x).IsZero() {
			t.Fatalf("%s with the error %d: %v", call, e, results)
		}
	}
}

// P1.15: arguments stay as they are, also behind their ends, and results have memory of their own.
func TestMemory(t *testing.T) {
	room := []int{1, 128, 0, 255, 77, 78}
	words := room[:4]
	tempRoom := []int{8, -8, 5, 99}
	spanRoom := []api.Span{span(0, 3), span(7, 8), span(4, 4)}
	for _, temps := range [][]int{nil, tempRoom[:1], tempRoom[:2], tempRoom[:3]} {
		after, _, _ := line.Pass(lineA(), words, temps)
		spoil(after)
	}
	can, _ := line.Can(lineA(), spanRoom[:2])
	spoil(can.Shifts)
	file, _ := line.Write(lineA(), words)
	kept := slices.Clone(file)
	_, _, read, _ := line.Read(file)
	spoil(read)
	if !slices.Equal(file, kept) {
		t.Errorf("Read changed its file: %v", file)
	}
	if !slices.Equal(room, []int{1, 128, 0, 255, 77, 78}) || !slices.Equal(tempRoom, []int{8, -8, 5, 99}) || !slices.Equal(spanRoom, []api.Span{span(0, 3), span(7, 8), span(4, 4)}) {
		t.Errorf("arguments were changed: %v, %v, %v", room, tempRoom, spanRoom)
	}
	again, _, _ := line.Pass(lineA(), words, nil)
	file, _ = line.Write(lineA(), words)
	if !slices.Equal(again, words) || !slices.Equal(file, kept) {
		t.Errorf("results depend on earlier ones: %v, %v", again, file)
	}
}

// spoil writes over a result, up to its capacity.
func spoil(list []int) {
	list = list[:cap(list)]
	for i := range list {
		list[i] = math.MinInt
	}
}
