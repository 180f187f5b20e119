package margin

import (
	"iter"
	"slices"
	"sort"

	"quicksilver/api"
)

// Group returns which strengths valves can have after they were checked together.
func Group(k api.MgKind, spans []api.Span, volt int, passed bool) (after []api.Span, suspects []int, e api.Errno) {
	need, e := Need(k, volt)
	if e != api.OK {
		return nil, nil, e
	}
	if e := spansError(spans); e != api.OK {
		return nil, nil, e
	}
	if passed {
		after, e = allPassed(spans, need)
		return after, nil, e
	}
	return someFailed(spans, need)
}

// spansError returns the error of spans of strengths.
func spansError(spans []api.Span) api.Errno {
	if len(spans) > api.MaxMgValves {
		return api.ErrLong
	}
	for _, s := range spans {
		if e := numbersError(0, api.MaxMgUnit, s.Lo, s.Hi); e != api.OK {
			return e
		}
		if s.Lo > s.Hi {
			return api.ErrArg
		}
	}
	return api.OK
}

// allPassed returns which strengths valves can have if each of them has what is needed.
func allPassed(spans []api.Span, need int) ([]api.Span, api.Errno) {
	after := make([]api.Span, len(spans))
	for i, s := range spans {
		after[i] = shown(s, need, true)
	}
	if slices.Contains(after, noStrength) {
		return nil, api.ErrDown
	}
	return after, api.OK
}

// someFailed returns which strengths valves can have if not all of them have what is needed, and which ones may not have it.
func someFailed(spans []api.Span, need int) (after []api.Span, suspects []int, e api.Errno) {
	for i, s := range spans {
		if shown(s, need, false) != noStrength {
			suspects = append(suspects, i)
		}
	}
	if len(suspects) == 0 {
		return nil, nil, api.ErrDown
	}
	after = slices.Clone(spans)
	// Of two suspects each one can be as strong as before, while the other one is too weak.
	if len(suspects) == 1 {
		only := suspects[0]
		after[only] = shown(spans[only], need, false)
	}
	return after, suspects, api.OK
}

// Replace returns which valves are replaced in each night, so that none can fail.
func Replace(rack []api.MgValve, nights []int, from, until int) (plan [][]int, e api.Errno) {
	defer func() {
		if left, ok := recover().(api.Errno); ok {
			plan, e = nil, left
		}
	}()
	must(rackError(rack, nights, from, until))
	// All valves are looked at before the first one is planned: their errors come before that of a plan.
	valves := make([]valve, len(rack))
	for i, m := range rack {
		v, e := look(m.Kind, m.Checks, from)
		must(e)
		valves[i] = v
	}
	plan = make([][]int, len(nights))
	for i, v := range valves {
		for night := range v.latestNights(nights, until) {
			plan[night] = append(plan[night], i)
		}
	}
	return plan, api.OK
}

// rackError returns the error of what Replace is given, but for that of single valves.
func rackError(rack []api.MgValve, nights []int, from, until int) api.Errno {
	if len(rack) > api.MaxMgValves || len(nights) > api.MaxMgNights {
		return api.ErrLong
	}
	if e := numbersError(0, api.MaxMgHour, nights...); e != api.OK {
		return e
	}
	if e := numbersError(0, api.MaxMgHour, from, until); e != api.OK {
		return e
	}
	for i := 1; i < len(nights); i++ {
		if nights[i] <= nights[i-1] {
			return api.ErrArg
		}
	}
	if from > until {
		return api.ErrArg
	}
	return api.OK
}

// latestNights yields the indices of the nights in which a valve is replaced by the latest plan, from its hour on.
// It leaves the rack if the plan is not safe: if there is no further night up to the hour at which the valve can fail.
func (v valve) latestNights(nights []int, until int) iter.Seq[int] {
	return func(yield func(int) bool) {
		now, last := v, lastNight(nights, v.hour-1)
		for {
			fails := now.fails().Earliest
			if fails < 0 || fails > until {
				return
			}
			night := lastNight(nights, fails)
			if night == last {
				panic(api.ErrDown)
			}
			if !yield(night) {
				return
			}
			now, last = newAt(v.MgKind, nights[night]), night
		}
	}
}

// lastNight returns the index of the last night that is not after an hour (-1: there is none).
func lastNight(nights []int, hour int) int { return sort.SearchInts(nights, hour+1) - 1 }

// must leaves a rack if there is an error.
func must(e api.Errno) {
	if e != api.OK {
		panic(e)
	}
}
