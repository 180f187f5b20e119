package margin

import (
	"cmp"
	"slices"

	"quicksilver/api"
)

// valve is a valve that is looked at: which strengths it can have at an hour.
// They are always all from one to another one: neither wear nor a check leaves a gap.
type valve struct {
	api.MgKind
	hour int
	can  api.Span
}

// noStrength are the strengths of a valve without a truth. No other span is less wide.
var noStrength = api.Span{Lo: 0, Hi: -1}

// Now returns which strength a valve can have at an hour.
func Now(k api.MgKind, checks []api.MgCheck, hour int) (api.Span, api.Errno) {
	v, e := look(k, checks, hour)
	return v.can, e
}

// Fails returns when a valve can fail, and when it surely has failed.
func Fails(k api.MgKind, checks []api.MgCheck, from int) (api.MgFail, api.Errno) {
	v, e := look(k, checks, from)
	if e != api.OK {
		return api.MgFail{}, e
	}
	return v.fails(), api.OK
}

// Life returns how many hours are left by a margin that was measured.
func Life(k api.MgKind, step int) (api.MgFail, api.Errno) {
	if e := Check(k); e != api.OK {
		return api.MgFail{}, e
	}
	if step < 0 || step >= len(k.Steps) {
		return api.MgFail{}, api.ErrNone
	}
	measured := shown(api.Span{Lo: 0, Hi: k.New}, k.Steps[step].Need, true)
	// If the Need of the next step is above New, all valves fail there, and it tells nothing.
	if step+1 < len(k.Steps) {
		measured = shown(measured, k.Steps[step+1].Need, false)
	}
	if measured == noStrength {
		return api.MgFail{}, api.ErrDown
	}
	return valve{MgKind: k, can: measured}.fails(), api.OK
}

// Next returns at which voltage a check tells most, and how wide the span is then at most.
func Next(k api.MgKind, checks []api.MgCheck, hour int) (volt, width int, e api.Errno) {
	v, e := look(k, checks, hour)
	if e != api.OK {
		return 0, 0, e
	}
	for i, step := range v.Steps {
		if left := widest(v.can, step.Need); i == 0 || left < width {
			volt, width = step.Volt, left
		}
	}
	return volt, width, api.OK
}

// look returns a valve as it can be at an hour, by its checks.
func look(k api.MgKind, checks []api.MgCheck, hour int) (valve, api.Errno) {
	if e := checksError(k, checks); e != api.OK {
		return valve{}, e
	}
	v := newAt(k, 0)
	passTo := func(later int) {
		hours := later - v.hour
		v.can = api.Span{Lo: max(0, v.can.Lo-hours*v.Wear.Hi), Hi: max(0, v.can.Hi-hours*v.Wear.Lo)}
		v.hour = later
	}
	for _, c := range inOrder(checks, ranking[api.MgCheck]{by: hourOf}) {
		passTo(c.Hour)
		need, _ := needAt(k, c.Volt)
		v.can = shown(v.can, need, c.Passed)
		if v.can == noStrength {
			return valve{}, api.ErrDown
		}
	}
	if e := numbersError(0, api.MaxMgHour, hour); e != api.OK {
		return valve{}, e
	}
	if hour < v.hour {
		return valve{}, api.ErrArg
	}
	passTo(hour)
	return v, api.OK
}

// newAt returns a valve that is new at an hour.
func newAt(k api.MgKind, hour int) valve {
	return valve{MgKind: k, hour: hour, can: api.Span{Lo: k.New, Hi: k.New}}
}

// checksError returns the error of a kind, and of checks one by one; whether they have a truth it does not say.
func checksError(k api.MgKind, checks []api.MgCheck) api.Errno {
	if e := Check(k); e != api.OK {
		return e
	}
	if len(checks) > api.MaxMgChecks {
		return api.ErrLong
	}
	for _, c := range checks {
		if e := numbersError(0, api.MaxMgHour, c.Hour); e != api.OK {
			return e
		}
		if _, e := needAt(k, c.Volt); e != api.OK {
			return e
		}
	}
	return api.OK
}

// ranking says by which number things are put in order.
type ranking[T any] struct{ by func(T) int }

// inOrder returns things in the order of a ranking.
func inOrder[T any](things []T, r ranking[T]) []T {
	sorted := slices.Clone(things)
	slices.SortStableFunc(sorted, func(a, b T) int { return cmp.Compare(r.by(a), r.by(b)) })
	return sorted
}

func hourOf(c api.MgCheck) int { return c.Hour }

// shown returns the strengths of a span that come to the result of a check at which so much is needed.
func shown(can api.Span, need int, passed bool) api.Span {
	if passed {
		can.Lo = max(can.Lo, need)
	} else {
		can.Hi = min(can.Hi, need-1)
	}
	if can.Lo > can.Hi {
		return noStrength
	}
	return can
}

// widest returns how wide a span is at most after a check at which so much is needed.
func widest(can api.Span, need int) int {
	return max(widthOf(shown(can, need, true)), widthOf(shown(can, need, false)))
}

func widthOf(s api.Span) int { return s.Hi - s.Lo }

// fails returns when a valve can fail, and when it surely has, from its hour on.
func (v valve) fails() api.MgFail {
	return api.MgFail{Earliest: v.below(v.can.Lo, v.Wear.Hi), Latest: v.below(v.can.Hi, v.Wear.Lo)}
}

// below returns the first hour at which a valve with a strength is below what it needs, with the same wear in each hour (-1: never).
func (v valve) below(strength, wear int) int {
	need := v.Steps[0].Need
	switch {
	case strength < need:
		return v.hour
	// No strength is below 0, so one that needs nothing never fails.
	case need == 0 || wear == 0:
		return -1
	}
	return v.hour + (strength-need)/wear + 1
}
