package margin_test

import (
	"math/rand"
	"slices"
	"testing"

	"quicksilver/api"
	"quicksilver/margin"
)

// P3.5, with the chapter's example.
func TestGroup(t *testing.T) {
	two := []api.Span{span(350, 649), span(600, 900)}
	three := []api.Span{span(350, 649), span(200, 400), span(600, 900)}
	all := []int{0, 1, 2, 3, 4, 5, 6, 7, 8, 9, 10, 11}
	for i, c := range []struct {
		spans    []api.Span
		volt     int
		passed   bool
		after    []api.Span
		suspects []int
		e        api.Errno
	}{
		{two, 900, false, []api.Span{span(350, 499), span(600, 900)}, []int{0}, api.OK},
		{two, 900, true, []api.Span{span(500, 649), span(600, 900)}, nil, api.OK},
		{two, 800, false, two, []int{0, 1}, api.OK},
		{two, 800, true, nil, nil, api.ErrDown},
		{two, 1000, false, nil, nil, api.ErrDown},
		{two, 1000, true, two, nil, api.OK},
		{three, 900, false, three, []int{0, 1}, api.OK},
		{three, 900, true, nil, nil, api.ErrDown},
		{three, 1000, false, []api.Span{span(350, 649), span(200, 299), span(600, 900)}, []int{1}, api.OK},
		{[]api.Span{span(499, 500)}, 950, false, []api.Span{span(499, 499)}, []int{0}, api.OK},
		{[]api.Span{span(499, 500)}, 950, true, []api.Span{span(500, 500)}, nil, api.OK},
		{[]api.Span{span(499, 499)}, 900, true, nil, nil, api.ErrDown},
		{[]api.Span{span(500, 500)}, 900, false, nil, nil, api.ErrDown},
		{[]api.Span{span(0, 1000000)}, 900, false, []api.Span{span(0, 499)}, []int{0}, api.OK},
		{[]api.Span{span(0, 1000000)}, 900, true, []api.Span{span(500, 1000000)}, nil, api.OK},
		{nil, 900, true, nil, nil, api.OK},
		{nil, 900, false, nil, nil, api.ErrDown},
		{make([]api.Span, 12), 900, false, make([]api.Span, 12), all, api.OK},
		{make([]api.Span, 13), 799, false, nil, nil, api.ErrRange},
		{make([]api.Span, 13), 1001, false, nil, nil, api.ErrRange},
		{slices.Repeat([]api.Span{span(-1, 0)}, 13), 900, true, nil, nil, api.ErrLong},
		{make([]api.Span, 13), 900, false, nil, nil, api.ErrLong},
		{[]api.Span{span(2, 1), span(-1, 0)}, 900, true, nil, nil, api.ErrArg},
		{[]api.Span{span(0, 0), span(-1, 0), span(2, 1)}, 900, true, nil, nil, api.ErrRange},
		{[]api.Span{span(2, -1)}, 900, true, nil, nil, api.ErrRange},
		{[]api.Span{span(1000001, 0)}, 900, true, nil, nil, api.ErrRange},
		{[]api.Span{span(0, 1000001)}, 900, false, nil, nil, api.ErrRange},
	} {
		after, suspects, e := margin.Group(kindK(), c.spans, c.volt, c.passed)
		if !slices.Equal(after, c.after) || !slices.Equal(suspects, c.suspects) || e != c.e {
			t.Errorf("%d: Group of %v at %d, %v: %v, %v, %d", i, c.spans, c.volt, c.passed, after, suspects, e)
		}
	}
}

// truthsOf calls a function with each choice of a strength for each valve.
func truthsOf(spans []api.Span, chosen []int, tell func([]int)) {
	if len(chosen) == len(spans) {
		tell(chosen)
		return
	}
	for s := spans[len(chosen)].Lo; s <= spans[len(chosen)].Hi; s++ {
		truthsOf(spans, append(slices.Clip(chosen), s), tell)
	}
}

// P3.5 and P3.11: what Group returns is what all truths of the group come to.
func TestAllGroups(t *testing.T) {
	r := rand.New(rand.NewSource(9))
	for range 3000 {
		k := someKind(r)
		volt, result := someVolt(r, k), r.Intn(2) == 0
		need := plainNeed(k, volt)
		spans := make([]api.Span, r.Intn(4))
		for i := range spans {
			spans[i].Lo = max(0, need-4+r.Intn(7))
			spans[i].Hi = spans[i].Lo + r.Intn(5)
		}
		can := make([]strengths, len(spans))
		for i := range can {
			can[i] = strengths{}
		}
		found := false
		truthsOf(spans, nil, func(truth []int) {
			if passes := !slices.ContainsFunc(truth, func(s int) bool { return s < need }); passes == result {
				found = true
				for i, s := range truth {
					can[i][s] = true
				}
			}
		})
		after, suspects, e := margin.Group(k, spans, volt, result)
		if !found {
			if after != nil || suspects != nil || e != api.ErrDown {
				t.Fatalf("Group of %v, %v at %d, %v, without a truth: %v, %v, %d", k, spans, volt, result, after, suspects, e)
			}
			continue
		}
		var want []api.Span
		var weak []int
		for i, s := range can {
			want = append(want, s.ends())
			if s.below(need) > 0 {
				weak = append(weak, i)
			}
		}
		if !slices.Equal(after, want) || !slices.Equal(suspects, weak) || e != api.OK {
			t.Fatalf("Group of %v, %v at %d, %v: %v, %v, %d, not %v, %v", k, spans, volt, result, after, suspects, e, want, weak)
		}
		if result && len(suspects) > 0 || len(suspects) == 1 && after[suspects[0]].Hi >= need {
			t.Fatalf("Group of %v, %v at %d, %v: %v, %v", k, spans, volt, result, after, suspects)
		}
	}
}

// P3.6, with the chapter's example.
func TestReplace(t *testing.T) {
	five := []int{100, 200, 300, 400, 500}
	one := []api.MgValve{{Kind: kindK()}}
	weak := []api.MgValve{{Kind: changed(func(k *api.MgKind) { k.New = 299 })}}
	just := []api.MgValve{{Kind: changed(func(k *api.MgKind) { k.New = 300 })}}
	still := changed(func(k *api.MgKind) { k.Wear = span(0, 0) })
	some := []api.MgValve{{Kind: kindK(), Checks: three()}, {Kind: still}, {Kind: kindK()}}
	for i, c := range []struct {
		rack        []api.MgValve
		nights      []int
		from, until int
		want        [][]int
		e           api.Errno
	}{
		{one, five, 0, 600, [][]int{nil, {0}, nil, {0}, nil}, api.OK},
		// The first hour at which it can fail is behind the last hour of all, or just that hour.
		{one, five, 0, 233, make([][]int, 5), api.OK},
		{one, five, 0, 234, [][]int{nil, {0}, nil, nil, nil}, api.OK},
		{one, five, 0, 633, [][]int{nil, {0}, nil, {0}, nil}, api.OK},
		{one, five, 0, 634, [][]int{nil, {0}, nil, {0}, {0}}, api.OK},
		{one, five, 0, 733, [][]int{nil, {0}, nil, {0}, {0}}, api.OK},
		{one, five, 0, 734, nil, api.ErrDown},
		// At the hour itself at which it can fail it is not too late.
		{one, []int{234, 468}, 0, 701, [][]int{{0}, {0}}, api.OK},
		{one, []int{234, 468}, 0, 702, nil, api.ErrDown},
		{one, []int{235}, 0, 300, nil, api.ErrDown},
		{one, []int{235}, 0, 233, [][]int{nil}, api.OK},
		// A night before the first hour of all does not count, that hour itself does.
		{one, five, 300, 533, [][]int{nil, nil, {0}, nil, nil}, api.OK},
		{one, five, 300, 534, [][]int{nil, nil, {0}, nil, {0}}, api.OK},
		{one, five, 301, 301, nil, api.ErrDown},
		{one, five, 200, 400, [][]int{nil, {0}, nil, nil, nil}, api.OK},
		{one, five, 201, 400, nil, api.ErrDown},
		{one, five, 201, 233, make([][]int, 5), api.OK},
		{one, nil, 0, 233, nil, api.OK},
		{one, nil, 0, 234, nil, api.ErrDown},
		{nil, five, 0, 100000, make([][]int, 5), api.OK},
		{nil, nil, 0, 0, nil, api.OK},
		{weak, []int{0, 1, 2}, 0, 0, nil, api.ErrDown},
		{weak, []int{5}, 0, 100, nil, api.ErrDown},
		{just, []int{0, 1, 2, 3}, 0, 3, [][]int{nil, {0}, {0}, {0}}, api.OK},
		{just, []int{0, 1, 3}, 0, 3, nil, api.ErrDown},
		{some, []int{210, 240, 260, 400, 450}, 200, 460, [][]int{{2}, nil, {0}, {2}, nil}, api.OK},
		{some, []int{234, 468}, 200, 500, [][]int{{0, 2}, {0, 2}}, api.OK},
		{some[1:2], nil, 0, 100000, nil, api.OK},
	} {
		plan, e := margin.Replace(c.rack, c.nights, c.from, c.until)
		if !slices.EqualFunc(plan, c.want, slices.Equal[[]int]) || e != c.e {
			t.Errorf("%d: Replace in %v from %d to %d: %v, %d, not %v, %d", i, c.nights, c.from, c.until, plan, e, c.want, c.e)
		}
	}
	full := slices.Repeat(one, 12)
	plan, e := margin.Replace(full, []int{1, 2, 3, 4, 5, 6, 7, 8, 9, 10, 11, 12, 13, 14, 15, 16, 17, 18, 19, 20}, 0, 253)
	if e != api.OK || len(plan) != 20 || !slices.Equal(plan[19], []int{0, 1, 2, 3, 4, 5, 6, 7, 8, 9, 10, 11}) {
		t.Errorf("Replace of a full rack: %v, %d", plan, e)
	}
}

// P3.6: the errors, and their order.
func TestReplaceErrors(t *testing.T) {
	good := api.MgValve{Kind: kindK()}
	weak := api.MgValve{Kind: changed(func(k *api.MgKind) { k.New = 299 })}
	noKind := api.MgValve{Checks: make([]api.MgCheck, 31)}
	withChecks := func(checks ...api.MgCheck) api.MgValve { return api.MgValve{Kind: kindK(), Checks: checks} }
	many := withChecks(make([]api.MgCheck, 31)...)
	for i, c := range []struct {
		rack        []api.MgValve
		nights      []int
		from, until int
		e           api.Errno
	}{
		{make([]api.MgValve, 13), []int{-1}, -1, 0, api.ErrLong},
		{nil, make([]int, 21), -1, 0, api.ErrLong},
		{make([]api.MgValve, 12), nil, 0, 0, api.ErrRange},
		{nil, []int{3, 2, -1}, 0, 0, api.ErrRange},
		{nil, []int{100001}, 0, 0, api.ErrRange},
		{nil, []int{0, 100000}, 0, 100000, api.OK},
		{nil, []int{3, 2}, -1, 0, api.ErrRange},
		{nil, []int{3, 2}, 100001, 100001, api.ErrRange},
		{nil, []int{3, 2}, 0, -1, api.ErrRange},
		{nil, []int{3, 2}, 0, 100001, api.ErrRange},
		{[]api.MgValve{noKind}, []int{2, 3, 3}, 0, 0, api.ErrArg},
		{[]api.MgValve{noKind}, []int{2, 3, 1}, 0, 0, api.ErrArg},
		{[]api.MgValve{noKind}, []int{2, 3}, 1, 0, api.ErrArg},
		{[]api.MgValve{weak, noKind}, nil, 0, 0, api.ErrRange},
		{[]api.MgValve{weak, many}, nil, 0, 0, api.ErrLong},
		{[]api.MgValve{weak, withChecks(failed(0, 1001))}, nil, 0, 0, api.ErrRange},
		{[]api.MgValve{good, withChecks(passed(1, 1000))}, nil, 0, 0, api.ErrArg},
		{[]api.MgValve{good, withChecks(passed(1, 1000))}, nil, 1, 1, api.OK},
		{[]api.MgValve{good, withChecks(failed(0, 1000))}, nil, 0, 0, api.ErrDown},
		// The first valve with an error decides.
		{[]api.MgValve{good, many, noKind}, nil, 0, 0, api.ErrLong},
		{[]api.MgValve{good, noKind, many}, nil, 0, 0, api.ErrRange},
		{[]api.MgValve{withChecks(failed(0, 1000)), many}, nil, 0, 0, api.ErrDown},
		{[]api.MgValve{withChecks(passed(1, 1000)), many}, nil, 0, 0, api.ErrArg},
		{[]api.MgValve{weak}, nil, 0, 0, api.ErrDown},
	} {
		plan, e := margin.Replace(c.rack, c.nights, c.from, c.until)
		if e != c.e || e != api.OK && plan != nil {
			t.Errorf("%d: Replace: %v, %d, not %d", i, plan, e, c.e)
		}
	}
}

// plainSafe follows all strengths of a valve that is replaced in some nights.
func plainSafe(m api.MgValve, nights []int, from, until int) bool {
	s := plainNow(m.Kind, m.Checks, from)
	for hour := from; hour <= until; hour++ {
		if hour > from {
			s = s.later(m.Kind)
		}
		if slices.Contains(nights, hour) {
			s = newOnes(m.Kind)
		}
		if s.below(m.Kind.Steps[0].Need) > 0 {
			return false
		}
	}
	return true
}

// nightsOf are the nights in which a valve is replaced by a plan.
func nightsOf(plan [][]int, nights []int, valve int) []int {
	var its []int
	for i, replaced := range plan {
		if slices.Contains(replaced, valve) {
			its = append(its, nights[i])
		}
	}
	return its
}

// plainPlan tries all choices of nights for a valve, from an hour on: the nights of the safe one with the fewest nights,
// and among those the one whose nights are the latest, the first one of them counting most.
func plainPlan(m api.MgValve, nights []int, from, until int) (best []int, found bool) {
	for choice := range 1 << len(nights) {
		var its []int
		for i, night := range nights {
			if choice>>i&1 == 1 {
				its = append(its, night)
			}
		}
		if len(its) > 0 && its[0] < from || !plainSafe(m, its, from, until) {
			continue
		}
		if !found || len(its) < len(best) || len(its) == len(best) && slices.Compare(its, best) > 0 {
			best, found = its, true
		}
	}
	return best, found
}

// P3.6 and P3.12: the plan is safe, none replaces fewer valves, and none is safe if Replace finds none.
func TestAllPlans(t *testing.T) {
	r := rand.New(rand.NewSource(10))
	safe, replaced := 0, 0
	for range 4000 {
		from := r.Intn(8)
		until := from + r.Intn(25)
		rack := make([]api.MgValve, r.Intn(3))
		for i := range rack {
			k := someKind(r)
			rack[i] = api.MgValve{Kind: k, Checks: checksOf(r, k, someTruth(r, k, from))}
		}
		var nights []int
		for night := r.Intn(6); len(nights) < 6; night += 1 + r.Intn(8) {
			nights = append(nights, night)
		}
		plan, e := margin.Replace(rack, nights, from, until)
		wants, all := make([][]int, len(rack)), true
		for i, m := range rack {
			found := false
			wants[i], found = plainPlan(m, nights, from, until)
			all = all && found
		}
		if !all {
			if plan != nil || e != api.ErrDown {
				t.Fatalf("Replace of %v in %v from %d to %d, with no safe plan: %v, %d", rack, nights, from, until, plan, e)
			}
			continue
		}
		safe++
		for i := range rack {
			its := nightsOf(plan, nights, i)
			replaced += len(its)
			if e != api.OK || len(plan) != len(nights) || !slices.Equal(its, wants[i]) {
				t.Fatalf("Replace of %v in %v from %d to %d: %v, %d, not %v", rack, nights, from, until, plan, e, wants)
			}
		}
	}
	if safe < 1000 || replaced < 500 {
		t.Errorf("only %d safe plans, with %d replacements", safe, replaced)
	}
}
