package gate_test

import (
	"fmt"
	"math/rand"
	"slices"
	"testing"

	"quicksilver/api"
	"quicksilver/gate"
)

// P2.4
func TestDiffer(t *testing.T) {
	// The adder with two gates more that change nothing, with an or in place of an xor, and with a carry that is forgotten.
	twice, or, lost, two := adder(), adder(), adder(), adder()
	twice.Gates = append(twice.Gates, g(4, 4, 0), g(4, 8, 0))
	twice.Outputs = []int{9}
	or.Gates[2].Kind = api.GaOr
	lost.Gates[5] = g(2, 5, 5)
	two.Outputs = []int{4, 4}
	chain := net(1, []int{3}, g(5, 0, 0), g(5, 1, 0), g(5, 2, 0))
	short := net(1, []int{2}, g(5, 0, 0), g(5, 1, 0), g(5, 2, 0))
	for _, c := range []struct {
		a, b api.GaNet
		want []int
		e    api.Errno
	}{
		{adder(), adder(), nil, api.ErrDown},
		{adder(), twice, nil, api.ErrDown},
		{adder(), or, []int{3, 1}, api.OK},
		{adder(), lost, []int{3, 1, 0}, api.OK},
		{chain, short, []int{1, 0, 0}, api.OK},
		{chain, net(1, []int{1}, g(5, 0, 0)), []int{1, 0}, api.OK},
		{net(1, []int{0}), net(1, []int{1}, g(4, 0, 0)), []int{0}, api.OK},
		{net(6, []int{0}), net(6, []int{1}), []int{1}, api.OK},
		{net(6, []int{5, 4}), net(6, []int{5, 3}), []int{8}, api.OK},
		{net(2, []int{0, 1}), net(2, []int{1, 0}), []int{1}, api.OK},
		{net(6, []int{6}, g(1, 4, 5)), net(6, []int{6}, g(1, 5, 5)), []int{32}, api.OK},
		{adder(), two, nil, api.ErrArg},
		{two, adder(), nil, api.ErrArg},
		{adder(), chain, nil, api.ErrArg},
		{api.GaNet{}, api.GaNet{Inputs: 1}, nil, api.ErrRange},
		{api.GaNet{Inputs: 1}, api.GaNet{}, nil, api.ErrLong},
		{adder(), api.GaNet{Inputs: 1}, nil, api.ErrLong},
		{adder(), net(1, []int{1}), nil, api.ErrNone},
	} {
		if inputs, e := gate.Differ(c.a, c.b); !slices.Equal(inputs, c.want) || e != c.e {
			t.Errorf("Differ of %v and %v: %v, %d", c.a, c.b, inputs, e)
		}
	}
}

// P2.4: nets that differ only after more beats than a test has, and after as many as there can be.
func TestDifferLate(t *testing.T) {
	never := net(1, []int{2}, g(4, 0, 0), g(1, 0, 1))
	if inputs, e := gate.Differ(counter(false), never); !slices.Equal(inputs, make([]int, 32)) || e != api.OK {
		t.Errorf("Differ of a counter and 0: %v, %d", inputs, e)
	}
	if inputs, e := gate.Differ(counter(true), counter(false)); !slices.Equal(inputs, make([]int, 63)) || e != api.OK {
		t.Errorf("Differ of counters: %v, %d", inputs, e)
	}
	if inputs, e := gate.Show(counter(false), stuck(13, 0)); !slices.Equal(inputs, make([]int, 32)) || e != api.OK {
		t.Errorf("Show of a counter: %v, %d", inputs, e)
	}
}

// P2.4: nets with all inputs and delays that there can be, which are in all pairs of states; their outputs are 0.
func TestDifferLargest(t *testing.T) {
	chain := func(first int) api.GaNet {
		return net(6, []int{12}, g(5, first, 0), g(5, 6, 0), g(5, 7, 0), g(5, 8, 0), g(5, 9, 0), g(4, 10, 0), g(1, 10, 11))
	}
	if inputs, e := gate.Differ(chain(0), chain(5)); len(inputs) > 0 || e != api.ErrDown {
		t.Errorf("Differ: %v, %d", inputs, e)
	}
	seen := chain(5)
	seen.Outputs[0] = 10
	if inputs, e := gate.Differ(chain(0), seen); !slices.Equal(inputs, []int{32, 0, 0, 0, 0, 0}) || e != api.OK {
		t.Errorf("Differ: %v, %d", inputs, e)
	}
}

// P2.4
func TestShow(t *testing.T) {
	// x, or not x, is 1 in any case.
	idle := net(1, []int{3}, g(4, 0, 0), g(2, 0, 1), g(1, 0, 2))
	chain := net(1, []int{3}, g(5, 0, 0), g(5, 1, 0), g(5, 2, 0))
	for _, c := range []struct {
		n    api.GaNet
		f    api.GaFault
		want []int
		e    api.Errno
	}{
		{adder(), stuck(7, 0), []int{3, 0}, api.OK},
		{adder(), stuck(2, 1), []int{0}, api.OK},
		{adder(), stuck(6, 0), []int{3, 1, 0}, api.OK},
		{adder(), stuck(5, 0), []int{3, 0}, api.OK},
		{adder(), stuck(5, 1), []int{0, 0}, api.OK},
		{adder(), stuck(0, 0), []int{1}, api.OK},
		{adder(), stuck(1, 0), []int{2}, api.OK},
		{adder(), stuck(3, 1), []int{0}, api.OK},
		{adder(), stuck(4, 0), []int{1}, api.OK},
		{idle, stuck(2, 1), nil, api.ErrDown},
		{idle, stuck(2, 0), []int{1}, api.OK},
		{idle, stuck(1, 0), nil, api.ErrDown},
		{chain, stuck(1, 1), []int{0, 0, 0}, api.OK},
		{chain, stuck(1, 0), []int{1, 0, 0, 0}, api.OK},
		{chain, stuck(3, 1), []int{0}, api.OK},
		{chain, stuck(0, 0), []int{1, 0, 0, 0}, api.OK},
		{adder(), stuck(8, 5), nil, api.ErrNone},
		{adder(), stuck(-1, 0), nil, api.ErrNone},
		{adder(), stuck(7, 2), nil, api.ErrRange},
		{adder(), stuck(0, -1), nil, api.ErrRange},
	} {
		if inputs, e := gate.Show(c.n, c.f); !slices.Equal(inputs, c.want) || e != c.e {
			t.Errorf("Show of %v and %v: %v, %d", c.n, c.f, inputs, e)
		}
	}
	for _, x := range extremes() {
		inputs, e := gate.Show(adder(), stuck(x, x))
		others, f := gate.Show(adder(), stuck(0, x))
		if len(inputs) > 0 || e != api.ErrNone || len(others) > 0 || f != api.ErrRange {
			t.Errorf("Show with %d: %v, %d; %v, %d", x, inputs, e, others, f)
		}
	}
}

// plainPair is two nets at work; where they come to with each input, and whether they differ by it then;
// and by how many beats they differ at least (0: not known yet, or by none).
type plainPair struct {
	a, b    plainNet
	next    []int
	differ  []bool
	fewest  int
	nearest int
}

// plainShortest finds the shortest inputs by which two nets differ from their ends:
// from each pair of states it goes where the fewest beats are missing.
func plainShortest(a, b plainNet) []int {
	pairs := plainPairs(a, b)
	for changed := true; changed; {
		changed = false
		for i := range pairs {
			changed = pairs[i].improve(pairs) || changed
		}
	}
	var inputs []int
	for at, left := 0, pairs[0].fewest; left > 0; left-- {
		inputs = append(inputs, pairs[at].nearest)
		at = pairs[at].next[pairs[at].nearest]
	}
	return inputs
}

// plainPairs returns all pairs of states that two nets come to.
func plainPairs(a, b plainNet) []*plainPair {
	numbers := map[string]int{}
	var pairs []*plainPair
	number := func(a, b plainNet) int {
		key := fmt.Sprint(a.held, b.held)
		if _, known := numbers[key]; !known {
			numbers[key] = len(pairs)
			pairs = append(pairs, &plainPair{a: a, b: b})
		}
		return numbers[key]
	}
	number(a, b)
	for i := 0; i < len(pairs); i++ {
		for input := range 1 << a.Inputs {
			nextA, outputA := pairs[i].a.beat(input)
			nextB, outputB := pairs[i].b.beat(input)
			pairs[i].next = append(pairs[i].next, number(nextA, nextB))
			pairs[i].differ = append(pairs[i].differ, outputA != outputB)
		}
	}
	return pairs
}

// improve finds the first input that leaves the fewest beats, and reports whether it is a better one.
func (p *plainPair) improve(pairs []*plainPair) bool {
	better := false
	for input, next := range p.next {
		beats := pairs[next].fewest + 1
		if p.differ[input] {
			beats = 1
		} else if beats == 1 {
			continue
		}
		if p.fewest == 0 || beats < p.fewest || beats == p.fewest && input < p.nearest {
			p.fewest, p.nearest, better = beats, input, true
		}
	}
	return better
}

// changed returns a net of which a few gates and outputs are others.
func changed(r *rand.Rand, n api.GaNet) api.GaNet {
	other := api.GaNet{Inputs: n.Inputs, Gates: slices.Clone(n.Gates), Outputs: slices.Clone(n.Outputs)}
	for range r.Intn(3) {
		if len(n.Gates) == 0 {
			break
		}
		at := r.Intn(len(n.Gates))
		one := &other.Gates[at]
		one.A = r.Intn(n.Inputs + at)
		if one.Kind <= api.GaXor {
			one.Kind = 1 + r.Intn(3)
		}
	}
	return other
}

// someSlowNet returns a net in which inputs come out late: three delays before other gates, and the last signal as an output.
func someSlowNet(r *rand.Rand, inputs int) api.GaNet {
	n := someNet(r, inputs+3, 1, 7, 0)
	n.Inputs = inputs
	delays := make([]api.GaGate, 3)
	last := inputs + 2 + len(n.Gates)
	for i := range delays {
		delays[i] = g(5, r.Intn(last+1), 0)
	}
	n.Gates = append(delays, n.Gates...)
	n.Outputs[0] = last
	return n
}

// checkShortest checks what Differ or Show returned for two nets.
func checkShortest(t *testing.T, a, b plainNet, inputs []int, e api.Errno) {
	t.Helper()
	want := plainShortest(a, b)
	wantE := api.OK
	if want == nil {
		wantE = api.ErrDown
	}
	if !slices.Equal(inputs, want) || e != wantE {
		t.Fatalf("of %v and %v: %v, %d, not %v, %d", a, b, inputs, e, want, wantE)
	}
	if e != api.OK {
		return
	}
	outputsA, outputsB := plainRun(a.GaNet, a.fault, inputs), plainRun(b.GaNet, b.fault, inputs)
	last := len(inputs) - 1
	if outputsA[last] == outputsB[last] || !slices.Equal(outputsA[:last], outputsB[:last]) {
		t.Fatalf("of %v and %v: %v, the outputs are %v and %v", a, b, inputs, outputsA, outputsB)
	}
}

// P2.4, P2.11 and P2.13 against the definition: the shortest inputs, and the first ones of these.
func TestShortestPlain(t *testing.T) {
	r := rand.New(rand.NewSource(4))
	long, none := 0, 0
	count := func(inputs []int) {
		switch {
		case len(inputs) == 0:
			none++
		case len(inputs) > 2:
			long++
		}
	}
	for range 3000 {
		inputs := 1 + r.Intn(3)
		a := someSlowNet(r, inputs)
		b := changed(r, a)
		if r.Intn(3) == 0 {
			b = someNet(r, inputs, len(a.Outputs), 10, 3)
		}
		by, e := gate.Differ(a, b)
		checkShortest(t, plain(a, fault{}), plain(b, fault{}), by, e)
		back, f := gate.Differ(b, a)
		if !slices.Equal(by, back) || e != f {
			t.Fatalf("Differ of %v and %v: %v, %d; in the other order: %v, %d", a, b, by, e, back, f)
		}
		one := someFault(r, a)
		shown, f := gate.Show(a, one)
		checkShortest(t, plain(a, fault{}), plain(a, fault{true, one}), shown, f)
		count(by)
		count(shown)
	}
	if long < 300 || none < 300 {
		t.Errorf("hardly any long inputs, or equal nets: %d, %d", long, none)
	}
}

// P2.13: nets between which there is no difference have the same outputs for any inputs.
func TestSameNets(t *testing.T) {
	r := rand.New(rand.NewSource(13))
	equal := 0
	for range 3000 {
		a := anyNet(r)
		b := changed(r, a)
		inputs, e := gate.Differ(a, b)
		if e == api.OK {
			continue
		}
		equal++
		for range 10 {
			test := someInputs(r, a, 32)
			outputsA, _ := gate.Run(a, test)
			outputsB, _ := gate.Run(b, test)
			if !slices.Equal(outputsA, outputsB) || e != api.ErrDown || len(inputs) > 0 {
				t.Fatalf("Differ of %v and %v: %v, %d; with %v: %v and %v", a, b, inputs, e, test, outputsA, outputsB)
			}
		}
	}
	if equal < 500 {
		t.Errorf("only %d equal nets", equal)
	}
}

// P2.13: a further gate at the end, which is no output, changes nothing.
func TestFurtherGate(t *testing.T) {
	r := rand.New(rand.NewSource(14))
	for range 1000 {
		a := someNet(r, 1+r.Intn(3), 1+r.Intn(3), 12, 2)
		b := changed(r, a)
		more := a
		end := a.Inputs + len(a.Gates)
		last := []api.GaGate{g(4, r.Intn(end), 0), g(5, r.Intn(end+1), 0), g(1+r.Intn(3), r.Intn(end), r.Intn(end))}[r.Intn(3)]
		more.Gates = append(slices.Clone(a.Gates), last)
		if inputs, e := gate.Differ(a, more); e != api.ErrDown {
			t.Fatalf("Differ of %v and %v: %v, %d", a, more, inputs, e)
		}
		by, e := gate.Differ(a, b)
		also, f := gate.Differ(more, b)
		f1, test := someFault(r, a), someInputs(r, a, 32)
		shown, h := gate.Show(a, f1)
		also2, k := gate.Show(more, f1)
		run, _ := gate.Stuck(a, f1, test)
		again, _ := gate.Stuck(more, f1, test)
		if !slices.Equal(by, also) || e != f || !slices.Equal(shown, also2) || h != k || !slices.Equal(run, again) {
			t.Fatalf("%v and %v: %v, %d and %v, %d; %v, %d and %v, %d; %v and %v", a, more, by, e, also, f, shown, h, also2, k, run, again)
		}
		if inputs, e := gate.Show(more, stuck(end, r.Intn(2))); e != api.ErrDown {
			t.Fatalf("Show of the last signal of %v: %v, %d", more, inputs, e)
		}
	}
}
