package line_test

import (
	"math"
	"math/rand"

	"quicksilver/api"
)

// span is all integers from one number to another one.
func span(lo, hi int) api.Span { return api.Span{Lo: lo, Hi: hi} }

// lineA and ovenO are the line A and the oven O of the chapter's examples.
func lineA() api.LnLine {
	return api.LnLine{Words: 4, Bits: 8, Period: 10, Delay: 320, Slope: 1, Window: 3}
}

func ovenO() api.LnOven { return api.LnOven{Low: 20, High: 30, Warm: span(2, 4), Cool: span(1, 3)} }

// extremes are numbers at which arithmetic could go wrong.
func extremes() []int {
	return []int{math.MinInt, math.MinInt + 1, -1 << 32, -501, -500, -1, 0, 1, 2, 1000, 1001, 1 << 32, math.MaxInt - 1, math.MaxInt}
}

// badLines are lines of which one number is not as stated; each of them differs in it from lineA.
func badLines() []api.LnLine {
	var bad []api.LnLine
	for _, n := range []int{math.MinInt, -1, 0, api.MaxLnWords + 1, math.MaxInt} {
		l := lineA()
		l.Words = n
		bad = append(bad, l)
	}
	for _, n := range []int{math.MinInt, -1, 0, api.MaxLnBits + 1, math.MaxInt} {
		l := lineA()
		l.Bits = n
		bad = append(bad, l)
	}
	for _, n := range []int{math.MinInt, -1, 0, 1, api.MaxLnPeriod + 1, math.MaxInt} {
		l := lineA()
		l.Period, l.Window = n, 0
		bad = append(bad, l)
	}
	for _, n := range []int{math.MinInt, -1, api.MaxLnDelay + 1, math.MaxInt} {
		l := lineA()
		l.Delay = n
		bad = append(bad, l)
	}
	for _, n := range []int{math.MinInt, -api.MaxLnSlope - 1, api.MaxLnSlope + 1, math.MaxInt} {
		l := lineA()
		l.Slope = n
		bad = append(bad, l)
	}
	for _, n := range []int{math.MinInt, -1, 5, 6, math.MaxInt/2 + 1, math.MaxInt} {
		l := lineA()
		l.Window = n
		bad = append(bad, l)
	}
	return bad
}

// someLine returns a line that is often safe, and sometimes shifts or loses pulses.
func someLine(r *rand.Rand) api.LnLine {
	l := api.LnLine{Words: 1 + r.Intn(6), Bits: 1 + r.Intn(9), Period: 2 + r.Intn(30)}
	l.Window = r.Intn((l.Period + 1) / 2)
	l.Delay = max(0, l.Words*l.Bits*l.Period+r.Intn(9)-4)
	l.Slope = r.Intn(9) - 4
	return l
}

// someWords returns words of a line.
func someWords(r *rand.Rand, l api.LnLine) []int {
	words := make([]int, l.Words)
	for i := range words {
		words[i] = r.Intn(1 << l.Bits)
	}
	return words
}

// someSpan returns a span of temperatures near one of them.
func someSpan(r *rand.Rand, near, width int) api.Span {
	lo := near + r.Intn(width)
	return span(lo, lo+r.Intn(width))
}

// someOven returns an oven for temperatures about 0.
func someOven(r *rand.Rand) api.LnOven {
	o := api.LnOven{Low: r.Intn(20) - 10, Warm: span(r.Intn(5), 0), Cool: span(r.Intn(5), 0)}
	o.High = o.Low + r.Intn(12)
	o.Warm.Hi = o.Warm.Lo + r.Intn(4)
	o.Cool.Hi = o.Cool.Lo + r.Intn(4)
	return o
}

// plainShift finds the shift at a temperature by trying out all numbers of beats about it.
func plainShift(l api.LnLine, temp int) (shift int, lost bool) {
	late := l.Delay + l.Slope*temp - l.Words*l.Bits*l.Period
	near := late / l.Period
	for s := near - 2; s <= near+2; s++ {
		if d := late - s*l.Period; -l.Window <= d && d <= l.Window {
			return s, false
		}
	}
	return 0, true
}

// plainRound moves each pulse on its own.
func plainRound(l api.LnLine, words []int, shift int) []int {
	all := l.Words * l.Bits
	after := make([]int, l.Words)
	for k := range all {
		if words[k/l.Bits]>>(k%l.Bits)&1 == 1 {
			to := ((k+shift)%all + all) % all
			after[to/l.Bits] += 1 << (to % l.Bits)
		}
	}
	return after
}
