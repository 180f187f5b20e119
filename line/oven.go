package line

import (
	"iter"

	"quicksilver/api"
)

// climate is at which temperature an oven is, and whether it heated in the minute before.
type climate struct {
	temp   int
	heated bool
}

// Oven returns at which temperatures an oven can be.
func Oven(o api.LnOven, temp api.Span, heats bool, minutes int) (api.Span, api.Errno) {
	if e := ovenError(o, temp, minutes); e != api.OK {
		return api.Span{}, e
	}
	lo, hi, _ := ends(func(yield func(int) bool) {
		for _, c := range climates(o, temp, heats, minutes) {
			if !yield(c.temp) {
				return
			}
		}
	})
	return api.Span{Lo: lo, Hi: hi}, api.OK
}

// Keeps returns after how many minutes a line in an oven may not be safe.
func Keeps(l api.LnLine, o api.LnOven, temp api.Span, heats bool, minutes int) (int, api.Errno) {
	if e := Check(l); e != api.OK {
		return 0, e
	}
	if e := ovenError(o, temp, minutes); e != api.OK {
		return 0, e
	}
	safe, never := Safe(l)
	for minute, c := range climates(o, temp, heats, minutes) {
		if never != api.OK || !within(c.temp, safe.Lo, safe.Hi) {
			return minute, api.OK
		}
	}
	return -1, api.OK
}

// ovenError returns the error of what Oven is given.
func ovenError(o api.LnOven, temp api.Span, minutes int) api.Errno {
	if !isTemp(o.Low) || !isTemp(o.High) || !isChange(o.Warm) || !isChange(o.Cool) {
		return api.ErrRange
	}
	if o.Low > o.High || o.Warm.Lo > o.Warm.Hi || o.Cool.Lo > o.Cool.Hi {
		return api.ErrArg
	}
	if e := tempsError(temp); e != api.OK {
		return e
	}
	if !within(minutes, 0, api.MaxLnMinutes) {
		return api.ErrRange
	}
	return api.OK
}

// isChange reports whether a temperature can change by both ends of a span in a minute.
func isChange(s api.Span) bool {
	return within(s.Lo, 0, api.MaxLnWarm) && within(s.Hi, 0, api.MaxLnWarm)
}

// climates yields each climate that there can be, with the least number of minutes after which there can be it.
// What was there before leads to nothing new, so only the climates of the last minute are followed.
func climates(o api.LnOven, temp api.Span, heats bool, minutes int) iter.Seq2[int, climate] {
	return func(yield func(int, climate) bool) {
		minute := minuteOf(o)
		met := map[climate]bool{}
		var now []climate
		for t := temp.Lo; t <= temp.Hi; t++ {
			now = meet(now, met, climate{t, heats})
		}
		for after := 0; after <= minutes; after++ {
			for _, c := range now {
				if !yield(after, c) {
					return
				}
			}
			var next []climate
			for _, c := range now {
				for d := range minute(c) {
					next = meet(next, met, d)
				}
			}
			now = next
		}
	}
}

// meet returns some climates, and one more if it has not been met yet.
func meet(list []climate, met map[climate]bool, c climate) []climate {
	if met[c] {
		return list
	}
	met[c] = true
	return append(list, c)
}

// minuteOf returns a minute of an oven: it yields all that a climate can become.
func minuteOf(o api.LnOven) func(climate) iter.Seq[climate] {
	return func(c climate) iter.Seq[climate] {
		heats := c.temp < o.Low || c.temp <= o.High && c.heated
		lo, hi := c.temp-o.Cool.Hi, c.temp-o.Cool.Lo
		if heats {
			lo, hi = c.temp+o.Warm.Lo, c.temp+o.Warm.Hi
		}
		return func(yield func(climate) bool) {
			for t := lo; t <= hi; t++ {
				if !yield(climate{t, heats}) {
					return
				}
			}
		}
	}
}
