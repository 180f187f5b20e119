package margin_test

import (
	"math/rand"
	"slices"
	"testing"

	"quicksilver/api"
	"quicksilver/margin"
)

// P3.2 and P3.3, with the chapter's examples.
func TestNowAndFails(t *testing.T) {
	for _, c := range []struct {
		checks []api.MgCheck
		hour   int
		now    api.Span
		fails  api.MgFail
	}{
		{nil, 0, span(1000, 1000), fail(234, 701)},
		{nil, 1, span(997, 999), fail(234, 701)},
		{nil, 233, span(301, 767), fail(234, 701)},
		{nil, 234, span(298, 766), fail(234, 701)},
		{nil, 235, span(295, 765), fail(235, 701)},
		{nil, 333, span(1, 667), fail(333, 701)},
		{nil, 334, span(0, 666), fail(334, 701)},
		{nil, 1001, span(0, 0), fail(1001, 1001)},
		{nil, 100000, span(0, 0), fail(100000, 100000)},
		{three(), 200, span(500, 699), fail(267, 600)},
		{three(), 250, span(350, 649), fail(267, 600)},
		{three()[:1], 100, span(700, 900), fail(234, 701)},
		{three()[:1], 200, span(400, 800), fail(234, 701)},
		// The strength at the hour 0 is no other than New, and a check of it tells nothing.
		{[]api.MgCheck{passed(0, 800)}, 0, span(1000, 1000), fail(234, 701)},
		// The number that is needed itself is enough.
		{[]api.MgCheck{passed(700, 1000)}, 700, span(300, 300), fail(701, 701)},
		{[]api.MgCheck{failed(234, 1000)}, 234, span(298, 299), fail(234, 234)},
		// A strength that was 0 once is 0 from then on.
		{[]api.MgCheck{failed(900, 1000)}, 950, span(0, 50), fail(950, 950)},
		{slices.Repeat([]api.MgCheck{failed(200, 850)}, 30), 200, span(400, 699), fail(234, 600)},
	} {
		now, e := margin.Now(kindK(), c.checks, c.hour)
		fails, f := margin.Fails(kindK(), c.checks, c.hour)
		if now != c.now || e != api.OK || fails != c.fails || f != api.OK {
			t.Errorf("with %v at %d: Now %v, %d; Fails %v, %d", c.checks, c.hour, now, e, fails, f)
		}
	}
}

// P3.2, P3.3 and P3.4: the errors of checks and of the hour, and their order.
func TestCheckErrors(t *testing.T) {
	impossible := []api.MgCheck{passed(100, 800), failed(100, 900)}
	for i, c := range []struct {
		checks []api.MgCheck
		hour   int
		e      api.Errno
	}{
		{slices.Repeat([]api.MgCheck{passed(-1, 0)}, 31), -1, api.ErrLong},
		{slices.Repeat([]api.MgCheck{failed(0, 1000)}, 31), 0, api.ErrLong},
		{slices.Repeat([]api.MgCheck{passed(0, 1000)}, 30), 0, api.OK},
		{[]api.MgCheck{passed(-1, 800)}, 0, api.ErrRange},
		{[]api.MgCheck{passed(100001, 800)}, 0, api.ErrRange},
		{[]api.MgCheck{failed(100000, 800)}, 100000, api.OK},
		{[]api.MgCheck{passed(0, 799)}, 0, api.ErrRange},
		{[]api.MgCheck{passed(0, 1001)}, 0, api.ErrRange},
		{[]api.MgCheck{failed(0, 800), failed(0, -1)}, -1, api.ErrRange},
		{append(slices.Clone(impossible), passed(5, 1001)), 0, api.ErrRange},
		{impossible, 100, api.ErrDown},
		{impossible, 99, api.ErrDown},
		{impossible, -1, api.ErrDown},
		{[]api.MgCheck{failed(0, 1000)}, 0, api.ErrDown},
		{[]api.MgCheck{failed(233, 1000)}, 233, api.ErrDown},
		{[]api.MgCheck{passed(701, 1000)}, 701, api.ErrDown},
		{[]api.MgCheck{passed(400, 800)}, 400, api.ErrDown},
		// Each of them alone has a truth.
		{[]api.MgCheck{passed(150, 800), failed(120, 800)}, 150, api.ErrDown},
		{[]api.MgCheck{passed(150, 800)}, 150, api.OK},
		{[]api.MgCheck{failed(120, 800)}, 150, api.OK},
		{three(), -1, api.ErrRange},
		{three(), 100001, api.ErrRange},
		{nil, -1, api.ErrRange},
		{nil, 100001, api.ErrRange},
		{three(), 199, api.ErrArg},
		{three(), 0, api.ErrArg},
		{three(), 200, api.OK},
	} {
		now, e := margin.Now(kindK(), c.checks, c.hour)
		fails, f := margin.Fails(kindK(), c.checks, c.hour)
		volt, width, g := margin.Next(kindK(), c.checks, c.hour)
		if e != c.e || f != c.e || g != c.e {
			t.Errorf("%d: the errors %d, %d and %d, not %d", i, e, f, g, c.e)
		}
		if e != api.OK && (now != span(0, 0) || fails != fail(0, 0) || volt != 0 || width != 0) {
			t.Errorf("%d: results beside an error: %v, %v, %d, %d", i, now, fails, volt, width)
		}
	}
}

// P3.3: valves that never fail, that fail however late, and that need more than they have.
func TestFailsEnds(t *testing.T) {
	needing := func(need int, wear api.Span) api.MgKind {
		return api.MgKind{New: 1000000, Wear: wear, Steps: []api.MgStep{{Volt: 1000, Need: need}}}
	}
	for _, c := range []struct {
		k    api.MgKind
		from int
		want api.MgFail
	}{
		{needing(5, span(0, 0)), 100000, never},
		{needing(0, span(1000, 1000)), 100000, never},
		{needing(1, span(0, 1)), 100000, fail(1000000, -1)},
		{needing(1, span(1, 1)), 100000, fail(1000000, 1000000)},
		{needing(1000000, span(0, 0)), 7, never},
		{needing(1000000, span(1, 1000)), 0, fail(1, 1)},
		{needing(1000000, span(0, 1000)), 7, fail(7, -1)},
		{needing(1, span(999, 1000)), 0, fail(1000, 1002)},
		{needing(1, span(1000, 1000)), 100000, fail(100000, 100000)},
	} {
		if f, e := margin.Fails(c.k, nil, c.from); f != c.want || e != api.OK {
			t.Errorf("Fails of %v from %d: %v, %d, not %v", c.k, c.from, f, e, c.want)
		}
	}
	weak := changed(func(k *api.MgKind) { k.New = 299 })
	if f, e := margin.Fails(weak, nil, 0); f != fail(0, 0) || e != api.OK {
		t.Errorf("Fails of a valve that is too weak when it is new: %v, %d", f, e)
	}
}

// P3.3, with the chapter's examples.
func TestLife(t *testing.T) {
	below := func(strength int) api.MgKind { return changed(func(k *api.MgKind) { k.New = strength }) }
	flat := changed(func(k *api.MgKind) { k.Steps[1].Need = 300 })
	still := changed(func(k *api.MgKind) { k.Wear = span(0, 0) })
	slow := changed(func(k *api.MgKind) { k.Wear.Lo = 0 })
	free := changed(func(k *api.MgKind) { k.Steps[0].Need = 0 })
	for i, c := range []struct {
		k    api.MgKind
		step int
		want api.MgFail
		e    api.Errno
	}{
		{kindK(), 0, fail(1, 200), api.OK},
		{kindK(), 1, fail(67, 400), api.OK},
		{kindK(), 2, fail(134, 701), api.OK},
		{kindK(), -1, fail(0, 0), api.ErrNone},
		{kindK(), 3, fail(0, 0), api.ErrNone},
		// New is just below the Need of the next step, just as great, and just above it.
		{below(699), 1, fail(67, 400), api.OK},
		{below(700), 1, fail(67, 400), api.OK},
		{below(701), 1, fail(67, 400), api.OK},
		{below(600), 1, fail(67, 301), api.OK},
		{below(500), 1, fail(67, 201), api.OK},
		{below(499), 1, fail(0, 0), api.ErrDown},
		{below(700), 2, fail(134, 401), api.OK},
		{below(699), 2, fail(0, 0), api.ErrDown},
		{below(299), 0, fail(0, 0), api.ErrDown},
		{below(299), 3, fail(0, 0), api.ErrNone},
		{flat, 0, fail(0, 0), api.ErrDown},
		{flat, 1, fail(1, 400), api.OK},
		{still, 1, never, api.OK},
		{slow, 1, fail(67, -1), api.OK},
		{free, 1, never, api.OK},
	} {
		if f, e := margin.Life(c.k, c.step); f != c.want || e != c.e {
			t.Errorf("%d: Life of the step %d: %v, %d, not %v, %d", i, c.step, f, e, c.want, c.e)
		}
	}
}

// P3.4, with the chapter's example.
func TestNext(t *testing.T) {
	free := changed(func(k *api.MgKind) { k.Steps[0].Need = 0 })
	for _, c := range []struct {
		k                 api.MgKind
		checks            []api.MgCheck
		hour, volt, width int
	}{
		{kindK(), three(), 250, 900, 149},
		// All results are known before, so no check tells anything.
		{kindK(), three(), 200, 1000, 199},
		{kindK(), nil, 0, 1000, 0},
		{kindK(), nil, 100, 1000, 200},
		{kindK(), nil, 100000, 1000, 0},
		{kindK(), nil, 150, 800, 150},
		{kindK(), nil, 250, 900, 250},
		{kindK(), nil, 300, 900, 399},
		// At 1000 and at 900 it leaves 300 to 499 and 500 to 699.
		{kindK(), []api.MgCheck{passed(300, 1000), failed(300, 800)}, 300, 900, 199},
		{free, nil, 300, 900, 399},
		{free, nil, 700, 1000, 300},
	} {
		if volt, width, e := margin.Next(c.k, c.checks, c.hour); volt != c.volt || width != c.width || e != api.OK {
			t.Errorf("Next with %v at %d: %d, %d, %d, not %d, %d", c.checks, c.hour, volt, width, e, c.volt, c.width)
		}
	}
}

// plainWidth is how wide the strengths are that a check can leave, in the worst case.
func plainWidth(s strengths, need int) int {
	widest := 0
	for _, passes := range []bool{true, false} {
		left := strengths{}
		for strength := range s {
			if (strength >= need) == passes {
				left[strength] = true
			}
		}
		if len(left) > 0 {
			widest = max(widest, left.ends().Hi-left.ends().Lo)
		}
	}
	return widest
}

// P3.2, P3.3 and P3.4: what is found is what comes out if each strength is followed hour by hour.
func TestAllStrengths(t *testing.T) {
	r := rand.New(rand.NewSource(2))
	without := 0
	for range 6000 {
		k := someKind(r)
		checks, hour := someChecks(r, k, 18), 17+r.Intn(8)
		s := plainNow(k, checks, hour)
		now, e := margin.Now(k, checks, hour)
		fails, f := margin.Fails(k, checks, hour)
		volt, width, g := margin.Next(k, checks, hour)
		if len(s) == 0 {
			without++
			if e != api.ErrDown || f != api.ErrDown || g != api.ErrDown {
				t.Fatalf("%v with %v, without a truth: %d, %d, %d", k, checks, e, f, g)
			}
			continue
		}
		if now != s.ends() || e != api.OK || len(s) != now.Hi-now.Lo+1 {
			t.Fatalf("Now of %v with %v at %d: %v, %d, not %v", k, checks, hour, now, e, s)
		}
		if want := plainFails(k, s, hour); fails != want || f != api.OK {
			t.Fatalf("Fails of %v with %v from %d: %v, %d, not %v", k, checks, hour, fails, f, want)
		}
		best := k.Steps[0]
		for _, step := range k.Steps {
			if plainWidth(s, step.Need) < plainWidth(s, best.Need) {
				best = step
			}
		}
		if volt != best.Volt || width != plainWidth(s, best.Need) || g != api.OK {
			t.Fatalf("Next of %v with %v at %d: %d, %d, %d, not %v", k, checks, hour, volt, width, g, best)
		}
	}
	if without < 500 || without > 5500 {
		t.Errorf("%d of 6000 checks are without a truth", without)
	}
}

// P3.3: the same for what was measured.
func TestAllLives(t *testing.T) {
	r := rand.New(rand.NewSource(3))
	for range 3000 {
		k := someKind(r)
		step := r.Intn(len(k.Steps))
		s := strengths{}
		for strength := k.Steps[step].Need; strength <= k.New; strength++ {
			if step+1 == len(k.Steps) || k.Steps[step+1].Need > k.New || strength < k.Steps[step+1].Need {
				s[strength] = true
			}
		}
		f, e := margin.Life(k, step)
		if len(s) == 0 {
			if f != fail(0, 0) || e != api.ErrDown {
				t.Fatalf("Life of %v, step %d, with no strength: %v, %d", k, step, f, e)
			}
		} else if want := plainFails(k, s, 0); f != want || e != api.OK {
			t.Fatalf("Life of %v, step %d: %v, %d, not %v", k, step, f, e, want)
		}
	}
}
