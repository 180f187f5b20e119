package gate_test

import (
	"math"
	"math/rand"
	"slices"
	"testing"

	"quicksilver/api"
	"quicksilver/gate"
)

// change is a change of a good net, and what Check says of it then.
type change struct {
	name     string
	change   func(n *api.GaNet)
	part, at int
	e        api.Errno
}

// changes are changes of the serial adder; those with several errors have the one that is named first.
func changes() []change {
	six := func() []api.GaGate { return slices.Repeat([]api.GaGate{g(5, 0, 0)}, 6) }
	list := []change{
		{"none", func(n *api.GaNet) {}, 0, 0, api.OK},
		{"no gates", func(n *api.GaNet) { n.Gates, n.Outputs[0] = nil, 1 }, 0, 0, api.OK},
		{"1 input", func(n *api.GaNet) { *n = net(1, []int{0}) }, 0, 0, api.OK},
		{"6 inputs", func(n *api.GaNet) { *n = net(6, []int{5, 0, 3, 3}) }, 0, 0, api.OK},
		{"0 inputs, and no outputs", func(n *api.GaNet) { n.Inputs, n.Outputs = 0, nil }, 1, 0, api.ErrRange},
		{"7 inputs, and a bad gate", func(n *api.GaNet) { n.Inputs, n.Gates[0].Kind = 7, 0 }, 1, 0, api.ErrRange},
		{"24 gates", func(n *api.GaNet) { n.Gates = slices.Repeat([]api.GaGate{g(4, 0, 0)}, 24) }, 0, 0, api.OK},
		{"25 gates", func(n *api.GaNet) { n.Gates = slices.Repeat([]api.GaGate{g(4, 0, 0)}, 25) }, 1, 0, api.ErrLong},
		{"25 bad gates", func(n *api.GaNet) { n.Gates = make([]api.GaGate, 25) }, 1, 0, api.ErrLong},
		{"25 gates, 0 inputs", func(n *api.GaNet) { n.Gates, n.Inputs = make([]api.GaGate, 25), 0 }, 1, 0, api.ErrRange},
		{"no outputs, and a bad gate", func(n *api.GaNet) { n.Outputs, n.Gates[0].Kind = nil, 0 }, 1, 0, api.ErrLong},
		{"4 outputs", func(n *api.GaNet) { n.Outputs = []int{7, 0, 7, 4} }, 0, 0, api.OK},
		{"5 outputs", func(n *api.GaNet) { n.Outputs = []int{7, 0, 7, 4, 9} }, 1, 0, api.ErrLong},
		{"the kind 0", func(n *api.GaNet) { n.Gates[1].Kind = 0 }, 2, 1, api.ErrArg},
		{"the kind 6, and a bad A", func(n *api.GaNet) { n.Gates[5] = g(6, -1, 0) }, 2, 5, api.ErrArg},
		{"a bad A before a bad kind", func(n *api.GaNet) { n.Gates[1].A, n.Gates[2].Kind = -1, 6 }, 2, 1, api.ErrNone},
		{"a bad kind before a bad A", func(n *api.GaNet) { n.Gates[1].Kind, n.Gates[2].A = 6, -1 }, 2, 1, api.ErrArg},
		{"A is the gate's own", func(n *api.GaNet) { n.Gates[1].A = 3 }, 2, 1, api.ErrNone},
		{"A is the one before", func(n *api.GaNet) { n.Gates[1].A = 2 }, 0, 0, api.OK},
		{"B is the gate's own", func(n *api.GaNet) { n.Gates[3].B = 5 }, 2, 3, api.ErrNone},
		{"B is the one before", func(n *api.GaNet) { n.Gates[3].B = 4 }, 0, 0, api.OK},
		{"B is a later one", func(n *api.GaNet) { n.Gates[5].B = 8 }, 2, 5, api.ErrNone},
		{"or of its own", func(n *api.GaNet) { n.Gates[5] = g(2, 7, 0) }, 2, 5, api.ErrNone},
		{"and of a later one", func(n *api.GaNet) { n.Gates[1] = g(1, 0, 4) }, 2, 1, api.ErrNone},
		{"B of and is below 0", func(n *api.GaNet) { n.Gates[1] = g(1, 0, -1) }, 2, 1, api.ErrNone},
		{"not of the one before", func(n *api.GaNet) { n.Gates[5] = g(4, 6, 0) }, 0, 0, api.OK},
		{"not of its own", func(n *api.GaNet) { n.Gates[5] = g(4, 7, 0) }, 2, 5, api.ErrNone},
		{"not with a B", func(n *api.GaNet) { n.Gates[5] = g(4, 6, 1) }, 2, 5, api.ErrNone},
		{"not with a B below 0", func(n *api.GaNet) { n.Gates[5] = g(4, 6, -1) }, 2, 5, api.ErrNone},
		{"delay of its own", func(n *api.GaNet) { n.Gates[0].A = 2 }, 0, 0, api.OK},
		{"delay of no signal", func(n *api.GaNet) { n.Gates[0].A = 8 }, 2, 0, api.ErrNone},
		{"delay of one below 0", func(n *api.GaNet) { n.Gates[0].A = -1 }, 2, 0, api.ErrNone},
		{"delay with a B", func(n *api.GaNet) { n.Gates[0].B = 7 }, 2, 0, api.ErrNone},
		{"5 delays", func(n *api.GaNet) { n.Gates = six()[:5] }, 0, 0, api.OK},
		{"6 delays, and a bad output", func(n *api.GaNet) { n.Gates, n.Outputs[0] = six(), 99 }, 1, 0, api.ErrLong},
		{"6 delays, and a bad gate", func(n *api.GaNet) { n.Gates = append(six(), g(4, 8, 0)) }, 2, 6, api.ErrNone},
		{"outputs of an input and the last gate", func(n *api.GaNet) { n.Outputs = []int{0, 7} }, 0, 0, api.OK},
		{"an output that is no signal", func(n *api.GaNet) { n.Outputs = []int{7, 8, -1} }, 3, 1, api.ErrNone},
		{"an output below 0", func(n *api.GaNet) { n.Outputs[0] = -1 }, 3, 0, api.ErrNone},
		{"a bad gate and a bad output", func(n *api.GaNet) { n.Outputs[0], n.Gates[5].Kind = -1, 9 }, 2, 5, api.ErrArg},
	}
	for _, x := range extremes() {
		list = append(list,
			change{"inputs", func(n *api.GaNet) { n.Inputs = x }, 1, 0, api.ErrRange},
			change{"kind", func(n *api.GaNet) { n.Gates[1].Kind = x }, 2, 1, api.ErrArg},
			change{"A", func(n *api.GaNet) { n.Gates[1].A = x }, 2, 1, api.ErrNone},
			change{"B", func(n *api.GaNet) { n.Gates[1].B = x }, 2, 1, api.ErrNone},
			change{"A of a delay", func(n *api.GaNet) { n.Gates[0].A = x }, 2, 0, api.ErrNone},
			change{"B of a delay", func(n *api.GaNet) { n.Gates[0].B = x }, 2, 0, api.ErrNone},
			change{"output", func(n *api.GaNet) { n.Outputs[0] = x }, 3, 0, api.ErrNone})
	}
	return list
}

// P2.1
func TestCheck(t *testing.T) {
	for _, c := range changes() {
		n := adder()
		c.change(&n)
		if part, at, e := gate.Check(n); part != c.part || at != c.at || e != c.e {
			t.Errorf("Check with the change %s: %d, %d, %d", c.name, part, at, e)
		}
	}
}

// P2.1: in nets of all sizes there is no error.
func TestCheckAll(t *testing.T) {
	r := rand.New(rand.NewSource(1))
	for range 5000 {
		n := anyNet(r)
		if part, at, e := gate.Check(n); part != 0 || at != 0 || e != api.OK {
			t.Fatalf("Check of %v: %d, %d, %d", n, part, at, e)
		}
	}
}

// P2.1 and P2.15: each adder has memory of its own.
func TestAdder(t *testing.T) {
	a := gate.Adder()
	if !same(a, adder()) {
		t.Errorf("Adder: %v", a)
	}
	a.Gates[0].A, a.Outputs[0] = 99, 99
	if b := gate.Adder(); !same(b, adder()) {
		t.Errorf("Adder after a change of the one before: %v", b)
	}
}

// The promises that each function with a net returns its error first, and nothing else.
func TestNetErrorFirst(t *testing.T) {
	far := make([]api.GaFault, 13)
	for _, c := range changes() {
		if c.e == api.OK {
			continue
		}
		n := adder()
		c.change(&n)
		next, output, e1 := gate.Step(n, -1, -1)
		run, e2 := gate.Run(n, make([]int, 33))
		with, e3 := gate.Stuck(n, stuck(-1, 2), make([]int, 33))
		first, e4 := gate.Differ(n, api.GaNet{})
		second, e5 := gate.Differ(adder(), n)
		show, e6 := gate.Show(n, stuck(-1, 2))
		table, e7 := gate.Table(n, far, nil)
		few, e8 := gate.Fewest(n, far, nil)
		tell, e9 := gate.Tell(n, far, nil)
		can, e10 := gate.Can(n, far, nil, make([][]int, 1))
		text, e11 := gate.Write(n)
		for i, e := range []api.Errno{e1, e2, e3, e4, e5, e6, e7, e8, e9, e10, e11} {
			if e != c.e {
				t.Errorf("function %d with the change %s: %d", i, c.name, e)
			}
		}
		if next != 0 || output != 0 || len(run)+len(with)+len(first)+len(second)+len(show)+len(table)+len(few)+len(tell)+len(can)+len(text) > 0 {
			t.Errorf("a result with the change %s", c.name)
		}
	}
}

// all is a net with a gate of each kind but a delay; shift has two delays, the first of which takes the second one.
func all() api.GaNet {
	return net(2, []int{2, 3, 4, 5}, g(1, 0, 1), g(2, 0, 1), g(3, 0, 1), g(4, 0, 0))
}

func shift() api.GaNet { return net(1, []int{0, 2, 1}, g(5, 2, 0), g(5, 0, 0)) }

// P2.2
func TestStep(t *testing.T) {
	five := net(1, []int{1, 2, 3, 5}, g(5, 0, 0), g(5, 1, 0), g(5, 2, 0), g(5, 3, 0), g(5, 5, 0))
	for _, c := range []struct {
		n            api.GaNet
		state, input int
		next, output int
		e            api.Errno
	}{
		{adder(), 1, 1, 1, 0, api.OK},
		{adder(), 1, 0, 0, 1, api.OK},
		{adder(), 1, 3, 1, 1, api.OK},
		{adder(), 0, 3, 1, 0, api.OK},
		{adder(), 0, 2, 0, 1, api.OK},
		{shift(), 2, 0, 1, 2, api.OK},
		{shift(), 3, 1, 3, 7, api.OK},
		{shift(), 1, 1, 2, 5, api.OK},
		{five, 31, 0, 30, 15, api.OK},
		{five, 16, 1, 17, 8, api.OK},
		{five, 2, 1, 5, 2, api.OK},
		{five, 32, 0, 0, 0, api.ErrRange},
		{net(6, []int{5}), 0, 63, 0, 1, api.OK},
		{net(6, []int{5}), 0, 64, 0, 0, api.ErrRange},
		{all(), 0, 0, 0, 8, api.OK},
		{all(), 0, 1, 0, 6, api.OK},
		{all(), 0, 2, 0, 14, api.OK},
		{all(), 0, 3, 0, 3, api.OK},
		{all(), 1, 0, 0, 0, api.ErrRange},
		{all(), 0, 4, 0, 0, api.ErrRange},
		{adder(), 2, 0, 0, 0, api.ErrRange},
		{adder(), -1, 0, 0, 0, api.ErrRange},
		{adder(), 0, 4, 0, 0, api.ErrRange},
		{adder(), 1, -1, 0, 0, api.ErrRange},
	} {
		if next, output, e := gate.Step(c.n, c.state, c.input); next != c.next || output != c.output || e != c.e {
			t.Errorf("Step of %v, state %d, input %d: %d, %d, %d", c.n, c.state, c.input, next, output, e)
		}
	}
	for _, x := range extremes() {
		next, output, e := gate.Step(adder(), x, 0)
		also, other, f := gate.Step(adder(), 0, x)
		if next != 0 || output != 0 || e != api.ErrRange || also != 0 || other != 0 || f != api.ErrRange {
			t.Errorf("Step with %d: %d, %d, %d; %d, %d, %d", x, next, output, e, also, other, f)
		}
	}
}

// P2.2
func TestRun(t *testing.T) {
	toggle := net(1, []int{3}, g(5, 2, 0), g(3, 0, 1), g(4, 1, 0))
	for _, c := range []struct {
		n            api.GaNet
		inputs, want []int
		e            api.Errno
	}{
		{adder(), []int{3, 1, 0}, []int{0, 0, 1}, api.OK},
		{adder(), []int{3, 3, 3, 0, 0}, []int{0, 1, 1, 1, 0}, api.OK},
		{adder(), nil, nil, api.OK},
		{all(), []int{0, 1, 2, 3}, []int{8, 6, 14, 3}, api.OK},
		{toggle, []int{1, 0, 1, 1, 0}, []int{1, 0, 0, 1, 0}, api.OK},
		{shift(), []int{1, 0, 0, 1, 1}, []int{1, 2, 4, 1, 3}, api.OK},
		{net(1, []int{1}, g(5, 1, 0)), []int{1, 1}, []int{0, 0}, api.OK},
		{net(1, []int{2}, g(5, 2, 0), g(4, 1, 0)), []int{0, 0, 0}, []int{1, 0, 1}, api.OK},
		{adder(), make([]int, 32), make([]int, 32), api.OK},
		{adder(), make([]int, 33), nil, api.ErrLong},
		{adder(), slices.Repeat([]int{4}, 33), nil, api.ErrLong},
		{adder(), []int{0, 3, 4}, nil, api.ErrRange},
		{adder(), []int{-1, 3}, nil, api.ErrRange},
		{adder(), []int{0, math.MinInt}, nil, api.ErrRange},
		{adder(), []int{math.MaxInt}, nil, api.ErrRange},
	} {
		if outputs, e := gate.Run(c.n, c.inputs); !slices.Equal(outputs, c.want) || e != c.e {
			t.Errorf("Run of %v with %v: %v, %d", c.n, c.inputs, outputs, e)
		}
	}
}

// P2.3
func TestStuck(t *testing.T) {
	chain := net(1, []int{3}, g(5, 0, 0), g(5, 1, 0), g(5, 2, 0))
	for _, c := range []struct {
		n            api.GaNet
		f            api.GaFault
		inputs, want []int
		e            api.Errno
	}{
		{adder(), stuck(7, 0), []int{3, 1, 0}, []int{0, 1, 0}, api.OK},
		{adder(), stuck(2, 1), []int{3, 1, 0}, []int{1, 0, 1}, api.OK},
		{adder(), stuck(6, 0), []int{3, 1, 0}, []int{0, 0, 0}, api.OK},
		{adder(), stuck(4, 1), []int{3, 1, 0}, []int{1, 1, 1}, api.OK},
		{adder(), stuck(0, 0), []int{3, 1, 0}, []int{1, 0, 0}, api.OK},
		{adder(), stuck(1, 1), []int{1, 0}, []int{0, 0}, api.OK},
		{chain, stuck(1, 1), []int{0, 0, 0, 0}, []int{0, 0, 1, 1}, api.OK},
		{chain, stuck(3, 1), []int{0, 0}, []int{1, 1}, api.OK},
		{chain, stuck(0, 1), []int{0, 0, 0, 0}, []int{0, 0, 0, 1}, api.OK},
		{net(1, []int{0, 0}), stuck(0, 1), []int{0, 1}, []int{3, 3}, api.OK},
		{adder(), stuck(0, 0), nil, nil, api.OK},
		{adder(), stuck(0, 0), make([]int, 32), make([]int, 32), api.OK},
		{adder(), stuck(0, 0), make([]int, 33), nil, api.ErrLong},
		{adder(), stuck(0, 0), slices.Repeat([]int{-1}, 33), nil, api.ErrLong},
		{adder(), stuck(0, 0), []int{0, 4}, nil, api.ErrRange},
		{adder(), stuck(0, 0), []int{-1}, nil, api.ErrRange},
		{adder(), stuck(8, 2), []int{4}, nil, api.ErrNone},
		{adder(), stuck(8, 0), make([]int, 33), nil, api.ErrNone},
		{adder(), stuck(-1, 0), nil, nil, api.ErrNone},
		{adder(), stuck(0, 2), make([]int, 33), nil, api.ErrRange},
		{adder(), stuck(7, -1), nil, nil, api.ErrRange},
	} {
		if outputs, e := gate.Stuck(c.n, c.f, c.inputs); !slices.Equal(outputs, c.want) || e != c.e {
			t.Errorf("Stuck of %v, %v with %v: %v, %d", c.n, c.f, c.inputs, outputs, e)
		}
	}
	for _, x := range extremes() {
		outputs, e := gate.Stuck(adder(), stuck(x, 0), nil)
		others, f := gate.Stuck(adder(), stuck(0, x), nil)
		if len(outputs) > 0 || e != api.ErrNone || len(others) > 0 || f != api.ErrRange {
			t.Errorf("Stuck with %d: %v, %d; %v, %d", x, outputs, e, others, f)
		}
	}
}

// P2.2 and P2.3 against the definition, signal by signal.
func TestRunPlain(t *testing.T) {
	r := rand.New(rand.NewSource(2))
	for range 5000 {
		n := anyNet(r)
		inputs, f := someInputs(r, n, 32), someFault(r, n)
		outputs, e := gate.Run(n, inputs)
		if want := plainRun(n, fault{}, inputs); !slices.Equal(outputs, want) || e != api.OK {
			t.Fatalf("Run of %v with %v: %v, %d, not %v", n, inputs, outputs, e, want)
		}
		outputs, e = gate.Stuck(n, f, inputs)
		if want := plainRun(n, fault{true, f}, inputs); !slices.Equal(outputs, want) || e != api.OK {
			t.Fatalf("Stuck of %v, %v with %v: %v, %d, not %v", n, f, inputs, outputs, e, want)
		}
	}
}

// sumBits adds two numbers beat by beat, and returns the bits that come out as a number.
func sumBits(t *testing.T, a, b uint64, beats int) uint64 {
	t.Helper()
	var sum uint64
	state := 0
	for beat := range beats {
		next, output, e := gate.Step(gate.Adder(), state, int(a>>beat&1)+2*int(b>>beat&1))
		if e != api.OK {
			t.Fatalf("Step: %d", e)
		}
		sum |= uint64(output) << beat
		state = next
	}
	return sum
}

// P2.8: the sum of any two numbers, as many bits as there are beats.
func TestAdderTheorem(t *testing.T) {
	r := rand.New(rand.NewSource(8))
	for range 2000 {
		a, b, beats := r.Uint64()>>r.Intn(64), r.Uint64()>>r.Intn(64), r.Intn(65)
		want := a + b
		if beats < 64 {
			want %= 1 << beats
		}
		if got := sumBits(t, a, b, beats); got != want {
			t.Fatalf("%d and %d in %d beats: %d, not %d", a, b, beats, got, want)
		}
		inputs := make([]int, min(beats, 32))
		for i := range inputs {
			inputs[i] = int(a>>i&1) + 2*int(b>>i&1)
		}
		outputs, e := gate.Run(gate.Adder(), inputs)
		for i, output := range outputs {
			if uint64(output) != (a+b)>>i&1 {
				t.Fatalf("Run of %d and %d: %v, %d", a, b, outputs, e)
			}
		}
		if len(outputs) != len(inputs) || e != api.OK {
			t.Fatalf("Run of %d and %d: %v, %d", a, b, outputs, e)
		}
	}
}

// P2.9 and P2.2: a run can be cut into beats, with the states of the definition, and what comes out does not depend on later inputs.
func TestCut(t *testing.T) {
	r := rand.New(rand.NewSource(9))
	for range 3000 {
		n := anyNet(r)
		inputs := someInputs(r, n, 32)
		outputs, _ := gate.Run(n, inputs)
		state, p := 0, plain(n, fault{})
		for beat, input := range inputs {
			p, _ = p.beat(input)
			next, output, e := gate.Step(n, state, input)
			if next != p.state() || output != outputs[beat] || e != api.OK {
				t.Fatalf("Step of %v, beat %d of %v: %d, %d, %d, not %d, %d", n, beat, inputs, next, output, e, p.state(), outputs[beat])
			}
			state = next
		}
		other := slices.Clone(inputs)
		cut := r.Intn(len(inputs) + 1)
		for i := range other[cut:] {
			other[cut+i] = r.Intn(1 << n.Inputs)
		}
		if others, _ := gate.Run(n, other); !slices.Equal(others[:cut], outputs[:cut]) {
			t.Fatalf("Run of %v with %v: %v; with %v: %v", n, inputs, outputs, other, others)
		}
		if part, _ := gate.Run(n, inputs[:cut]); !slices.Equal(part, outputs[:cut]) {
			t.Fatalf("Run of %v with %v: %v; with %d beats: %v", n, inputs, outputs, cut, part)
		}
	}
}
