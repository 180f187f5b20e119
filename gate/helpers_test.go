package gate_test

import (
	"math"
	"math/rand"
	"slices"

	"quicksilver/api"
)

// g is a gate.
func g(kind, a, b int) api.GaGate { return api.GaGate{Kind: kind, A: a, B: b} }

// net is a net.
func net(inputs int, outputs []int, gates ...api.GaGate) api.GaNet {
	return api.GaNet{Inputs: inputs, Gates: gates, Outputs: outputs}
}

// stuck is a fault.
func stuck(signal, at int) api.GaFault { return api.GaFault{Signal: signal, Stuck: at} }

// adder is the serial adder of the chapter, written down once more.
func adder() api.GaNet {
	return net(2, []int{4}, g(5, 7, 0), g(3, 0, 1), g(3, 3, 2), g(1, 0, 1), g(1, 3, 2), g(2, 5, 6))
}

// counter is a net whose five delays count the beats from 0 on; behind 31 it begins with 0 again, or with 1 if it is short.
// Its outputs are whether it is at 31.
func counter(short bool) api.GaNet {
	next := 6
	if short {
		next = 14
	}
	return net(1, []int{13},
		g(5, next, 0), g(5, 7, 0), g(5, 9, 0), g(5, 11, 0), g(5, 15, 0),
		g(4, 1, 0), g(3, 1, 2), g(1, 1, 2), g(3, 3, 8), g(1, 3, 8), g(3, 4, 10), g(1, 4, 10),
		g(1, 5, 12), g(2, 6, 13), g(3, 5, 12))
}

// extremes are numbers at which arithmetic could go wrong.
func extremes() []int {
	return []int{math.MinInt, math.MinInt + 1, -1 << 32, -64, -2, -1, 64, 1 << 32, 1<<63 - 64, math.MaxInt - 1, math.MaxInt}
}

// same reports whether two nets are the same.
func same(a, b api.GaNet) bool {
	return a.Inputs == b.Inputs && slices.Equal(a.Gates, b.Gates) && slices.Equal(a.Outputs, b.Outputs)
}

// isZero reports whether a net is what there is beside an error.
func isZero(n api.GaNet) bool { return n.Inputs == 0 && len(n.Gates) == 0 && len(n.Outputs) == 0 }

// someNet returns a net with some inputs and outputs, and at most so many gates, and delays.
func someNet(r *rand.Rand, inputs, outputs, gates, delays int) api.GaNet {
	n := api.GaNet{Inputs: inputs}
	count := r.Intn(gates + 1)
	for i := range count {
		kind := 1 + r.Intn(5)
		for kind == api.GaDelay && delays == 0 {
			kind = 1 + r.Intn(5)
		}
		below := inputs + i
		one := g(kind, r.Intn(below), 0)
		switch kind {
		case api.GaDelay:
			delays--
			one.A = r.Intn(inputs + count)
		case api.GaAnd, api.GaOr, api.GaXor:
			one.B = r.Intn(below)
		}
		n.Gates = append(n.Gates, one)
	}
	for range outputs {
		n.Outputs = append(n.Outputs, r.Intn(inputs+count))
	}
	return n
}

// anyNet returns a net of any size.
func anyNet(r *rand.Rand) api.GaNet {
	return someNet(r, 1+r.Intn(6), 1+r.Intn(4), r.Intn(25), r.Intn(6))
}

// someFault returns a fault of a net.
func someFault(r *rand.Rand, n api.GaNet) api.GaFault {
	return stuck(r.Intn(n.Inputs+len(n.Gates)), r.Intn(2))
}

// someFaults returns some faults of a net, at most so many.
func someFaults(r *rand.Rand, n api.GaNet, most int) []api.GaFault {
	var faults []api.GaFault
	for range r.Intn(most + 1) {
		faults = append(faults, someFault(r, n))
	}
	return faults
}

// someInputs returns inputs of a net, for at most so many beats.
func someInputs(r *rand.Rand, n api.GaNet, most int) []int {
	inputs := make([]int, r.Intn(most+1))
	for i := range inputs {
		inputs[i] = r.Intn(1 << n.Inputs)
	}
	return inputs
}

// someTests returns some tests of a net.
func someTests(r *rand.Rand, n api.GaNet, most, beats int) [][]int {
	tests := make([][]int, r.Intn(most+1))
	for i := range tests {
		tests[i] = someInputs(r, n, beats)
	}
	return tests
}

// fault is a fault, or none.
type fault struct {
	there bool
	api.GaFault
}

// plainNet is a net at work, by the definition, signal by signal.
type plainNet struct {
	api.GaNet
	fault fault
	held  []int // for each gate that is a delay: what it took in the beat before
}

func plain(n api.GaNet, f fault) plainNet {
	return plainNet{GaNet: n, fault: f, held: make([]int, len(n.Gates))}
}

// beat returns the net after a beat, and the output.
func (p plainNet) beat(input int) (next plainNet, output int) {
	now := make([]int, p.Inputs+len(p.Gates))
	for s := range now {
		if s < p.Inputs {
			now[s] = input >> s % 2
		} else {
			now[s] = p.signal(s-p.Inputs, now)
		}
		if p.fault.there && p.fault.Signal == s {
			now[s] = p.fault.Stuck
		}
	}
	next = plain(p.GaNet, p.fault)
	for i, g := range p.Gates {
		if g.Kind == api.GaDelay {
			next.held[i] = now[g.A]
		}
	}
	for i, s := range p.Outputs {
		output += now[s] << i
	}
	return next, output
}

// signal returns the signal of a gate.
func (p plainNet) signal(at int, now []int) int {
	g := p.Gates[at]
	switch g.Kind {
	case api.GaAnd:
		return min(now[g.A], now[g.B])
	case api.GaOr:
		return max(now[g.A], now[g.B])
	case api.GaXor:
		return (now[g.A] + now[g.B]) % 2
	case api.GaNot:
		return 1 - now[g.A]
	}
	return p.held[at]
}

// state returns the state of the net.
func (p plainNet) state() int {
	state, value := 0, 1
	for i, g := range p.Gates {
		if g.Kind == api.GaDelay {
			state += p.held[i] * value
			value *= 2
		}
	}
	return state
}

// plainRun returns the outputs of a net, beat by beat.
func plainRun(n api.GaNet, f fault, inputs []int) []int {
	p := plain(n, f)
	outputs := make([]int, len(inputs))
	for i, input := range inputs {
		p, outputs[i] = p.beat(input)
	}
	return outputs
}

// plainAll returns the outputs of the net without a fault, and with each of some, in a test.
func plainAll(n api.GaNet, faults []api.GaFault, test []int) [][]int {
	all := [][]int{plainRun(n, fault{}, test)}
	for _, f := range faults {
		all = append(all, plainRun(n, fault{true, f}, test))
	}
	return all
}
