package margin_test

import (
	"math/rand"
	"slices"
	"testing"

	"quicksilver/api"
	"quicksilver/margin"
)

// firstBelow is the first hour from one on at which a truth is below what is needed at All, or -1.
func firstBelow(k api.MgKind, truth []int, from int) int {
	for hour := from; hour < len(truth); hour++ {
		if truth[hour] < k.Steps[0].Need {
			return hour
		}
	}
	return -1
}

// outside reports whether a truth that fails at an hour (-1: not in the hours that it has) contradicts what is said of it.
func outside(f api.MgFail, at, hours int) bool {
	if at < 0 {
		return f.Latest >= 0 && f.Latest < hours
	}
	return f.Earliest < 0 || at < f.Earliest || f.Latest >= 0 && at > f.Latest
}

// P3.7: any truth stays within the span, and within both hours.
func TestAnyTruth(t *testing.T) {
	r := rand.New(rand.NewSource(4))
	ends := 0
	for range 8000 {
		k := someKind(r)
		truth := someTruth(r, k, 20)
		checks := checksOf(r, k, truth)
		whole := slices.Concat(truth, someTruth(r, api.MgKind{New: truth[20], Wear: k.Wear}, 60)[1:])
		now, e := margin.Now(k, checks, 20)
		fails, f := margin.Fails(k, checks, 20)
		if e != api.OK || f != api.OK || truth[20] < now.Lo || truth[20] > now.Hi {
			t.Fatalf("%v, the truth %v with %v: Now %v, %d; %d", k, truth, checks, now, e, f)
		}
		if outside(fails, firstBelow(k, whole, 20), len(whole)) {
			t.Fatalf("%v, the truth %v with %v: Fails %v", k, whole, checks, fails)
		}
		if truth[20] == now.Lo || truth[20] == now.Hi {
			ends++
		}
	}
	if ends < 800 {
		t.Errorf("only %d truths reach an end of their spans", ends)
	}
}

// P3.8: a valve that passed at a step, and failed at the next one, has the hours of Life before it fails.
func TestMeasured(t *testing.T) {
	r := rand.New(rand.NewSource(5))
	measured := 0
	for range 20000 {
		k := someKind(r)
		truth := someTruth(r, k, 80)
		hour, step := r.Intn(25), r.Intn(len(k.Steps))
		last := step == len(k.Steps)-1
		if truth[hour] < k.Steps[step].Need || !last && truth[hour] >= k.Steps[step+1].Need {
			continue
		}
		measured++
		life, e := margin.Life(k, step)
		if e != api.OK {
			t.Fatalf("Life of %v, step %d, is %d with the truth %v", k, step, e, truth)
		}
		if outside(life, firstBelow(k, truth[hour:], 0), len(truth)-hour) {
			t.Fatalf("Life of %v, step %d: %v, not from %d on of the truth %v", k, step, life, hour, truth)
		}
	}
	if measured < 3000 {
		t.Errorf("only %d measured valves", measured)
	}
}

// P3.9: neither order nor repetition counts, and a further check never takes away what is known.
func TestAnyOrder(t *testing.T) {
	r := rand.New(rand.NewSource(6))
	for range 5000 {
		k := someKind(r)
		checks := someChecks(r, k, 18)
		now, e := margin.Now(k, checks, 18)
		fails, f := margin.Fails(k, checks, 18)
		mixed := slices.Clone(checks)
		r.Shuffle(len(mixed), func(i, j int) { mixed[i], mixed[j] = mixed[j], mixed[i] })
		if len(mixed) > 0 {
			mixed = append(mixed, mixed[r.Intn(len(mixed))])
		}
		now2, e2 := margin.Now(k, mixed, 18)
		fails2, f2 := margin.Fails(k, mixed, 18)
		if now2 != now || e2 != e || fails2 != fails || f2 != f {
			t.Fatalf("%v with %v: %v, %d, %v, %d; with %v: %v, %d, %v, %d", k, checks, now, e, fails, f, mixed, now2, e2, fails2, f2)
		}
		more := append(mixed, api.MgCheck{Hour: r.Intn(19), Volt: someVolt(r, k), Passed: r.Intn(2) == 0})
		now3, e3 := margin.Now(k, more, 18)
		fails3, _ := margin.Fails(k, more, 18)
		if e3 != api.OK {
			continue
		}
		if e != api.OK || now3.Lo < now.Lo || now3.Hi > now.Hi {
			t.Fatalf("%v with %v: %v, %d; with %v: %v", k, checks, now, e, more, now3)
		}
		if earlier(fails3.Earliest, fails.Earliest) || earlier(fails.Latest, fails3.Latest) {
			t.Fatalf("%v with %v: %v; with %v: %v", k, checks, fails, more, fails3)
		}
	}
}

// earlier reports whether an hour is before another one, where -1 is never.
func earlier(hour, other int) bool { return hour >= 0 && (other < 0 || hour < other) }

// P3.10: the check that Next names leaves no more than it says, and no other one is better in the worst case.
func TestTellsMost(t *testing.T) {
	r := rand.New(rand.NewSource(7))
	for range 2000 {
		k := someKind(r)
		truth := someTruth(r, k, 15)
		checks := checksOf(r, k, truth)
		volt, width, e := margin.Next(k, checks, 15)
		if e != api.OK {
			t.Fatalf("Next of %v with %v: %d", k, checks, e)
		}
		for v := k.Steps[len(k.Steps)-1].Volt; v <= api.All; v++ {
			worst := -1
			for _, result := range []bool{true, false} {
				after, e := margin.Now(k, append(slices.Clone(checks), api.MgCheck{Hour: 15, Volt: v, Passed: result}), 15)
				if e == api.OK {
					worst = max(worst, after.Hi-after.Lo)
				}
			}
			if worst < width || v == volt && worst != width {
				t.Fatalf("Next of %v with %v: %d, %d; at %d: %d", k, checks, volt, width, v, worst)
			}
		}
	}
}

// P3.13: a later hour, and more or less wear.
func TestLater(t *testing.T) {
	r := rand.New(rand.NewSource(8))
	for range 5000 {
		k := someKind(r)
		truth := someTruth(r, k, 15)
		checks := checksOf(r, k, truth)
		now, _ := margin.Now(k, checks, 15)
		later, e := margin.Now(k, checks, 15+r.Intn(10))
		if e != api.OK || later.Lo > now.Lo || later.Hi > now.Hi {
			t.Fatalf("Now of %v with %v: %v, and later %v, %d", k, checks, now, later, e)
		}
		more, less := k, k
		more.Wear.Hi += r.Intn(3)
		less.Wear.Lo = r.Intn(k.Wear.Lo + 1)
		fails, _ := margin.Fails(k, checks, 15)
		failsMore, e := margin.Fails(more, checks, 15)
		failsLess, f := margin.Fails(less, checks, 15)
		if e != api.OK || earlier(fails.Earliest, failsMore.Earliest) {
			t.Fatalf("Fails of %v with %v: %v, and with more wear %v, %d", k, checks, fails, failsMore, e)
		}
		if f != api.OK || earlier(failsLess.Latest, fails.Latest) {
			t.Fatalf("Fails of %v with %v: %v, and with less wear %v, %d", k, checks, fails, failsLess, f)
		}
	}
}
