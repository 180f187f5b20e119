package margin_test

import (
	"math/rand"
	"slices"
	"testing"

	"quicksilver/api"
	"quicksilver/margin"
)

// wrongKinds are kinds and their errors; several have more than one, of which the first one counts.
func wrongKinds() map[api.Errno][]api.MgKind {
	return map[api.Errno][]api.MgKind{
		api.ErrRange: {
			{},
			changed(func(k *api.MgKind) { k.New = 0 }),
			changed(func(k *api.MgKind) { k.New = api.MaxMgUnit + 1 }),
			changed(func(k *api.MgKind) { k.New, k.Wear = -1, span(2, 1) }),
			changed(func(k *api.MgKind) { k.Wear = span(-1, 0) }),
			changed(func(k *api.MgKind) { k.Wear = span(0, -1) }),
			changed(func(k *api.MgKind) { k.Wear = span(1001, 1001) }),
			changed(func(k *api.MgKind) { k.Wear, k.Steps = span(1, 1001), nil }),
			changed(func(k *api.MgKind) { k.Steps[0].Volt = 1001 }),
			changed(func(k *api.MgKind) { k.Steps[0].Need = -1 }),
			changed(func(k *api.MgKind) { k.Steps[0].Need = api.MaxMgUnit + 1 }),
			changed(func(k *api.MgKind) { k.Steps[0] = api.MgStep{Volt: 999, Need: -1} }),
			changed(func(k *api.MgKind) { k.Steps[1].Volt, k.Steps[2].Need = -1, 0 }),
			changed(func(k *api.MgKind) { k.Steps[1] = api.MgStep{Volt: 1000, Need: api.MaxMgUnit + 1} }),
			changed(func(k *api.MgKind) { k.Steps[2] = api.MgStep{Volt: -1, Need: 0} }),
		},
		api.ErrArg: {
			changed(func(k *api.MgKind) { k.Wear = span(1, 0) }),
			changed(func(k *api.MgKind) { k.Wear, k.Steps = span(1000, 999), nil }),
			changed(func(k *api.MgKind) { k.Steps[0].Volt = 999 }),
			changed(func(k *api.MgKind) { k.Steps[0].Volt, k.Steps[1].Need = 0, -1 }),
			changed(func(k *api.MgKind) { k.Steps[1].Volt = 1000 }),
			changed(func(k *api.MgKind) { k.Steps[1].Need, k.Steps[2].Volt = 299, -1 }),
			changed(func(k *api.MgKind) { k.Steps[2].Volt = 900 }),
			changed(func(k *api.MgKind) { k.Steps[2].Volt = 901 }),
			changed(func(k *api.MgKind) { k.Steps[2].Need = 499 }),
		},
		api.ErrLong: {
			changed(func(k *api.MgKind) { k.Steps = nil }),
			changed(func(k *api.MgKind) { k.Steps = []api.MgStep{} }),
			changed(func(k *api.MgKind) { k.Steps = make([]api.MgStep, 9) }),
			changed(func(k *api.MgKind) { k.Steps = slices.Repeat([]api.MgStep{{Volt: -1, Need: -1}}, 9) }),
		},
	}
}

// P3.1
func TestCheck(t *testing.T) {
	for e, kinds := range wrongKinds() {
		for i, k := range kinds {
			if got := margin.Check(k); got != e {
				t.Errorf("Check of the wrong kind %d: %d, not %d", i, got, e)
			}
		}
	}
	eight := kindK()
	eight.Steps = nil
	for i := range 8 {
		eight.Steps = append(eight.Steps, api.MgStep{Volt: 1000 - i, Need: i / 2})
	}
	for i, k := range []api.MgKind{
		kindK(),
		eight,
		{New: 1, Steps: []api.MgStep{{Volt: 1000}}},
		{New: 1, Wear: span(1000, 1000), Steps: []api.MgStep{{Volt: 1000}, {Volt: 0}}},
		{New: api.MaxMgUnit, Wear: span(0, 1000), Steps: []api.MgStep{{Volt: 1000, Need: api.MaxMgUnit}, {Volt: 999, Need: api.MaxMgUnit}}},
	} {
		if e := margin.Check(k); e != api.OK {
			t.Errorf("Check of the kind %d: %d", i, e)
		}
	}
}

// All functions but Check return the error of a kind first, whatever else is wrong.
func TestKindFirst(t *testing.T) {
	checks := slices.Repeat([]api.MgCheck{failed(-1, -1)}, 31)
	for want, kinds := range wrongKinds() {
		for i, k := range kinds {
			_, need := margin.Need(k, -1)
			_, now := margin.Now(k, checks, -1)
			_, fails := margin.Fails(k, checks, -1)
			_, life := margin.Life(k, -1)
			_, _, next := margin.Next(k, checks, -1)
			_, _, group := margin.Group(k, make([]api.Span, 13), -1, true)
			_, replace := margin.Replace([]api.MgValve{{Kind: k, Checks: checks}}, nil, 0, 0)
			for _, e := range []api.Errno{need, now, fails, life, next, group, replace} {
				if e != want {
					t.Errorf("calls with the wrong kind %d: %d, %d, %d, %d, %d, %d, %d, not %d", i, need, now, fails, life, next, group, replace, want)
				}
			}
		}
	}
}

// P3.1, with the chapter's examples.
func TestNeed(t *testing.T) {
	one := changed(func(k *api.MgKind) { k.Steps = k.Steps[:1] })
	low := changed(func(k *api.MgKind) { k.Steps[2].Volt = 0 })
	for _, c := range []struct {
		k          api.MgKind
		volt, want int
		e          api.Errno
	}{
		{kindK(), 1000, 300, api.OK},
		{kindK(), 999, 500, api.OK},
		{kindK(), 950, 500, api.OK},
		{kindK(), 900, 500, api.OK},
		{kindK(), 899, 700, api.OK},
		{kindK(), 800, 700, api.OK},
		{kindK(), 799, 0, api.ErrRange},
		{kindK(), 1001, 0, api.ErrRange},
		{kindK(), -1, 0, api.ErrRange},
		{one, 1000, 300, api.OK},
		{one, 999, 0, api.ErrRange},
		{low, 0, 700, api.OK},
		{low, -1, 0, api.ErrRange},
		{low, 1001, 0, api.ErrRange},
	} {
		if need, e := margin.Need(c.k, c.volt); need != c.want || e != c.e {
			t.Errorf("Need at %d: %d, %d, not %d, %d", c.volt, need, e, c.want, c.e)
		}
	}
	r := rand.New(rand.NewSource(1))
	for range 2000 {
		k := someKind(r)
		volt := someVolt(r, k)
		if need, e := margin.Need(k, volt); need != plainNeed(k, volt) || e != api.OK {
			t.Fatalf("Need of %v at %d: %d, %d", k, volt, need, e)
		}
	}
}
