package margin_test

import (
	"math"
	"math/rand"
	"reflect"
	"slices"
	"testing"

	"quicksilver/api"
	"quicksilver/margin"
)

// anyInt returns a number that is as stated now and then, and far beyond it otherwise.
func anyInt(r *rand.Rand) int {
	switch r.Intn(4) {
	case 0:
		return extremes()[r.Intn(len(extremes()))]
	case 1:
		return int(r.Uint64())
	}
	return r.Intn(40) - 2
}

// anyKind returns a kind of which some numbers are not as stated.
func anyKind(r *rand.Rand) api.MgKind {
	k := someKind(r)
	for range r.Intn(3) {
		switch r.Intn(5) {
		case 0:
			k.New = anyInt(r)
		case 1:
			k.Wear = span(anyInt(r), anyInt(r))
		case 2:
			k.Steps = slices.Repeat(k.Steps, r.Intn(4))
		case 3:
			k.Steps = append(k.Steps, api.MgStep{Volt: anyInt(r), Need: anyInt(r)})
		default:
			for i := range k.Steps {
				k.Steps[i].Need = anyInt(r)
			}
		}
	}
	return k
}

// anyChecks returns checks of which some are not as stated.
func anyChecks(r *rand.Rand) []api.MgCheck {
	checks := make([]api.MgCheck, r.Intn(33)>>r.Intn(6))
	for i := range checks {
		checks[i] = api.MgCheck{Hour: r.Intn(100), Volt: 1000 - r.Intn(4), Passed: r.Intn(4) > 0}
		if r.Intn(10) == 0 {
			checks[i] = api.MgCheck{Hour: anyInt(r), Volt: anyInt(r)}
		}
	}
	return checks
}

// anyRack returns valves, and nights, of which some are not as stated.
func anyRack(r *rand.Rand) (rack []api.MgValve, nights []int) {
	rack = make([]api.MgValve, r.Intn(15)>>r.Intn(3))
	for i := range rack {
		rack[i] = api.MgValve{Kind: someKind(r)}
		if r.Intn(10) == 0 {
			rack[i] = api.MgValve{Kind: anyKind(r), Checks: anyChecks(r)}
		}
	}
	nights = make([]int, r.Intn(23))
	for i := range nights {
		nights[i] = 3*i + r.Intn(3)
		if r.Intn(40) == 0 {
			nights[i] = anyInt(r)
		}
	}
	return rack, nights
}

// P3.14 and P1: whatever the arguments, the calls come back, and with an error all else is zero.
func TestAnyArguments(t *testing.T) {
	r := rand.New(rand.NewSource(11))
	for range 20000 {
		k, checks := anyKind(r), anyChecks(r)
		hour, passed := anyInt(r), r.Intn(2) == 0
		margin.Check(k)
		need, e := margin.Need(k, anyInt(r))
		zero(t, "Need", e, need)
		now, e := margin.Now(k, checks, hour)
		zero(t, "Now", e, now)
		fails, e := margin.Fails(k, checks, hour)
		zero(t, "Fails", e, fails)
		life, e := margin.Life(k, anyInt(r))
		zero(t, "Life", e, life)
		volt, width, e := margin.Next(k, checks, hour)
		zero(t, "Next", e, volt, width)
		spans := make([]api.Span, r.Intn(15))
		for i := range spans {
			spans[i] = span(anyInt(r), anyInt(r))
		}
		after, suspects, e := margin.Group(k, spans, 1000, passed)
		zero(t, "Group", e, after, suspects)
		rack, nights := anyRack(r)
		plan, e := margin.Replace(rack, nights, anyInt(r), anyInt(r))
		zero(t, "Replace", e, plan)
		plan, e = margin.Replace(rack, nights, r.Intn(5), r.Intn(60))
		zero(t, "Replace", e, plan)
	}
}

// zero fails if there is an error, and a result is not zero.
func zero(t *testing.T, call string, e api.Errno, results ...any) {
	t.Helper()
	for _, x := range results {
		if e != api.OK && !reflect.ValueOf(x).IsZero() {
			t.Fatalf("%s with the error %d: %v", call, e, results)
		}
	}
}

// spoil writes over a result, up to its capacity.
func spoil[T any](list []T, with T) {
	list = list[:cap(list)]
	for i := range list {
		list[i] = with
	}
}

// P3.14: arguments stay as they are, also behind their ends, and results have memory of their own.
func TestMemory(t *testing.T) {
	k := kindK()
	k.Steps = append(k.Steps, api.MgStep{Volt: 7, Need: 7})
	stepRoom := k.Steps
	k.Steps = k.Steps[:3]
	checkRoom := []api.MgCheck{passed(200, 900), failed(200, 800), passed(100, 800), passed(7, 7)}
	spanRoom := []api.Span{span(350, 649), span(600, 900), span(7, 7)}
	nightRoom := []int{210, 240, 400, 7}
	rackRoom := []api.MgValve{{Kind: k, Checks: checkRoom[:3]}, {Kind: k}, {Kind: k}}
	steps, checks, spans, nights := slices.Clone(stepRoom), slices.Clone(checkRoom), slices.Clone(spanRoom), slices.Clone(nightRoom)
	for _, volt := range []int{1000, 900, 800} {
		for _, passed := range []bool{true, false} {
			after, suspects, _ := margin.Group(k, spanRoom[:2], volt, passed)
			spoil(after, span(9, 9))
			spoil(suspects, math.MinInt)
		}
	}
	for range 2 {
		margin.Check(k)
		margin.Need(k, 900)
		margin.Now(k, checkRoom[:3], 250)
		margin.Fails(k, checkRoom[:3], 250)
		margin.Life(k, 1)
		margin.Next(k, checkRoom[:3], 250)
		plan, e := margin.Replace(rackRoom[:2], nightRoom[:3], 200, 450)
		if e != api.OK || !slices.EqualFunc(plan, [][]int{{1}, {0}, {1}}, slices.Equal[[]int]) {
			t.Errorf("Replace: %v, %d", plan, e)
		}
		for i := range plan {
			spoil(plan[i], 9)
		}
		for i := range plan {
			if slices.ContainsFunc(plan[i][:cap(plan[i])], func(n int) bool { return n != 9 }) {
				t.Errorf("two nights of a plan share memory: %v", plan)
			}
		}
		spoil(plan, []int{9})
	}
	if !slices.Equal(stepRoom, steps) || !slices.Equal(checkRoom, checks) || !slices.Equal(spanRoom, spans) || !slices.Equal(nightRoom, nights) {
		t.Errorf("arguments were changed: %v, %v, %v, %v", stepRoom, checkRoom, spanRoom, nightRoom)
	}
	if !reflect.DeepEqual(rackRoom, []api.MgValve{{Kind: k, Checks: checks[:3]}, {Kind: k}, {Kind: k}}) {
		t.Errorf("arguments were changed: %v", rackRoom)
	}
	after, suspects, _ := margin.Group(k, spanRoom[:2], 900, false)
	if !slices.Equal(after, []api.Span{span(350, 499), span(600, 900)}) || !slices.Equal(suspects, []int{0}) {
		t.Errorf("results depend on earlier ones: %v, %v", after, suspects)
	}
}
