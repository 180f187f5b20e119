package margin_test

import (
	"maps"
	"math"
	"math/rand"
	"slices"

	"quicksilver/api"
)

// span is all integers from one number to another one.
func span(lo, hi int) api.Span { return api.Span{Lo: lo, Hi: hi} }

// never is what Fails returns for a valve that stays as it is.
var never = api.MgFail{Earliest: -1, Latest: -1}

func fail(earliest, latest int) api.MgFail { return api.MgFail{Earliest: earliest, Latest: latest} }

// kindK is the kind of the chapter's examples, and three are their checks.
func kindK() api.MgKind {
	return api.MgKind{New: 1000, Wear: span(1, 3), Steps: []api.MgStep{{Volt: 1000, Need: 300}, {Volt: 900, Need: 500}, {Volt: 800, Need: 700}}}
}

func three() []api.MgCheck {
	return []api.MgCheck{passed(100, 800), failed(200, 800), passed(200, 900)}
}

func passed(hour, volt int) api.MgCheck { return api.MgCheck{Hour: hour, Volt: volt, Passed: true} }

func failed(hour, volt int) api.MgCheck { return api.MgCheck{Hour: hour, Volt: volt} }

// changed is the kind K with a change.
func changed(change func(k *api.MgKind)) api.MgKind {
	k := kindK()
	change(&k)
	return k
}

// extremes are numbers at which arithmetic could go wrong.
func extremes() []int {
	return []int{math.MinInt, math.MinInt + 1, -1 << 32, -1, 0, 1, 800, 1000, 1001, 100000, 100001, 1000000, 1000001, 1 << 32, math.MaxInt - 1, math.MaxInt}
}

// someKind returns a kind with small numbers, so that each of its strengths can be followed.
func someKind(r *rand.Rand) api.MgKind {
	k := api.MgKind{New: 1 + r.Intn(30), Wear: span(r.Intn(3), 0)}
	k.Wear.Hi = k.Wear.Lo + r.Intn(3)
	volt, need := api.All, r.Intn(12)
	for range 1 + r.Intn(4) {
		k.Steps = append(k.Steps, api.MgStep{Volt: volt, Need: need})
		volt, need = volt-1-r.Intn(5), need+r.Intn(12)
	}
	return k
}

// someVolt returns a voltage.
func someVolt(r *rand.Rand, k api.MgKind) int {
	last := k.Steps[len(k.Steps)-1].Volt
	return last + r.Intn(api.All-last+1)
}

// someTruth returns the strengths of a valve at the hours up to one of them.
func someTruth(r *rand.Rand, k api.MgKind, hours int) []int {
	truth := []int{k.New}
	// Often the wear is always the least one, or the greatest one: then the truth is at an end of what there can be.
	worst, best := r.Intn(4) == 0, r.Intn(4) == 0
	for hour := range hours {
		wear := k.Wear.Lo + r.Intn(k.Wear.Hi-k.Wear.Lo+1)
		if worst {
			wear = k.Wear.Hi
		} else if best {
			wear = k.Wear.Lo
		}
		truth = append(truth, max(0, truth[hour]-wear))
	}
	return truth
}

// checksOf returns checks with which a truth agrees.
func checksOf(r *rand.Rand, k api.MgKind, truth []int) []api.MgCheck {
	checks := make([]api.MgCheck, r.Intn(4))
	for i := range checks {
		hour, volt := r.Intn(len(truth)), someVolt(r, k)
		checks[i] = api.MgCheck{Hour: hour, Volt: volt, Passed: truth[hour] >= plainNeed(k, volt)}
	}
	return checks
}

// someChecks returns checks that can be without a truth.
func someChecks(r *rand.Rand, k api.MgKind, hours int) []api.MgCheck {
	checks := make([]api.MgCheck, r.Intn(4))
	for i := range checks {
		checks[i] = api.MgCheck{Hour: r.Intn(hours), Volt: someVolt(r, k), Passed: r.Intn(2) == 0}
	}
	return checks
}

// plainNeed is what is needed at a voltage.
func plainNeed(k api.MgKind, volt int) int {
	first := slices.IndexFunc(k.Steps, func(s api.MgStep) bool { return s.Volt <= volt })
	return k.Steps[first].Need
}

// strengths are the strengths that a valve can have at an hour, one by one.
type strengths map[int]bool

// newOnes are the strengths of a new valve.
func newOnes(k api.MgKind) strengths { return strengths{k.New: true} }

// later are the strengths after a further hour.
func (s strengths) later(k api.MgKind) strengths {
	next := strengths{}
	for strength := range s {
		for wear := k.Wear.Lo; wear <= k.Wear.Hi; wear++ {
			next[max(0, strength-wear)] = true
		}
	}
	return next
}

// agreeing are the strengths with which the checks of an hour agree.
func (s strengths) agreeing(k api.MgKind, checks []api.MgCheck, hour int) strengths {
	kept := maps.Clone(s)
	for _, c := range checks {
		if c.Hour == hour {
			maps.DeleteFunc(kept, func(strength int, _ bool) bool { return (strength >= plainNeed(k, c.Volt)) != c.Passed })
		}
	}
	return kept
}

// below counts the strengths that are below a number.
func (s strengths) below(limit int) int {
	count := 0
	for strength := range s {
		if strength < limit {
			count++
		}
	}
	return count
}

// ends are the least and the greatest strength.
func (s strengths) ends() api.Span {
	sorted := slices.Sorted(maps.Keys(s))
	return span(sorted[0], sorted[len(sorted)-1])
}

// plainNow follows all strengths hour by hour; there are none if there is no truth.
func plainNow(k api.MgKind, checks []api.MgCheck, hour int) strengths {
	s := newOnes(k).agreeing(k, checks, 0)
	for h := 1; h <= hour; h++ {
		s = s.later(k).agreeing(k, checks, h)
	}
	return s
}

// plainFails follows strengths from an hour on until all of them are 0, or stay as they are.
func plainFails(k api.MgKind, s strengths, from int) api.MgFail {
	found := never
	for hour := from; hour <= from+k.New+1; hour++ {
		below := s.below(k.Steps[0].Need)
		if below > 0 && found.Earliest < 0 {
			found.Earliest = hour
		}
		if below == len(s) && found.Latest < 0 {
			found.Latest = hour
		}
		s = s.later(k)
	}
	return found
}
