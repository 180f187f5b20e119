package gate

import (
	"slices"

	"quicksilver/api"
)

// pair is the states of two nets that got the same inputs.
type pair struct{ a, b int }

// visit is a pair that was met: behind which earlier one (-1: none), and by which input.
type visit struct {
	pair
	before, input int
}

// Differ returns the shortest inputs by which two nets differ.
func Differ(a, b api.GaNet) ([]int, api.Errno) {
	if e := netError(a); e != api.OK {
		return nil, e
	}
	if e := netError(b); e != api.OK {
		return nil, e
	}
	if a.Inputs != b.Inputs || len(a.Outputs) != len(b.Outputs) {
		return nil, api.ErrArg
	}
	return shortest(atWork(a), atWork(b))
}

// Show returns the shortest inputs that show a fault.
func Show(n api.GaNet, f api.GaFault) ([]int, api.Errno) {
	if e := netError(n); e != api.OK {
		return nil, e
	}
	if e := faultError(n, f); e != api.OK {
		return nil, e
	}
	return shortest(atWork(n), withFault(n, f))
}

// shortest returns the shortest inputs by which two nets differ.
// Pairs are visited in the order of the inputs that lead to them, the fewest first, so a pair that was met before leads to nothing better.
func shortest(a, b *nets) ([]int, api.Errno) {
	all := forEach(a.Inputs)
	met := map[pair]bool{{}: true}
	visits := []visit{{before: -1}}
	last := visits[0]
search:
	for at := 0; at < len(visits); at++ {
		a.start(visits[at].a)
		b.start(visits[at].b)
		a.beat(all)
		b.beat(all)
		for input := range 1 << a.Inputs {
			if a.output(input) != b.output(input) {
				last = visit{before: at, input: input}
				break search
			}
			next := pair{a.state(input), b.state(input)}
			if !met[next] {
				met[next] = true
				visits = append(visits, visit{next, at, input})
			}
		}
	}
	if last.before < 0 {
		return nil, api.ErrDown
	}
	return inputsTo(visits, last), api.OK
}

// inputsTo returns the inputs that lead to a visit.
func inputsTo(visits []visit, v visit) []int {
	var inputs []int
	for ; v.before >= 0; v = visits[v.before] {
		inputs = append(inputs, v.input)
	}
	slices.Reverse(inputs)
	return inputs
}
