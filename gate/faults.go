package gate

import (
	"iter"
	"slices"

	"quicksilver/api"
)

// apart is which nets are told apart: the bit k of the word i is set if the nets i and k are.
// (Nets behind the last fault have none; they are told apart from others just as the first net is.)
type apart [api.MaxGaFaults + 1]uint64

// Table returns for each test which faults it finds.
func Table(n api.GaNet, faults []api.GaFault, tests [][]int) ([][]bool, api.Errno) {
	if e := testsError(n, faults, tests); e != api.OK {
		return nil, e
	}
	table := make([][]bool, len(tests))
	for i, found := range foundBy(n, faults, tests) {
		table[i] = make([]bool, len(faults))
		for k := range faults {
			table[i][k] = found>>(k+1)&1 == 1
		}
	}
	return table, api.OK
}

// Fewest returns the fewest tests that find all faults that some test finds.
func Fewest(n api.GaNet, faults []api.GaFault, tests [][]int) ([]int, api.Errno) {
	if e := testsError(n, faults, tests); e != api.OK {
		return nil, e
	}
	either := func(a, b uint64) uint64 { return a | b }
	return fewest(foundBy(n, faults, tests), either), api.OK
}

// Tell returns the fewest tests that tell apart all that some test tells apart.
func Tell(n api.GaNet, faults []api.GaFault, tests [][]int) ([]int, api.Errno) {
	if e := testsError(n, faults, tests); e != api.OK {
		return nil, e
	}
	either := func(a, b apart) apart {
		for i := range a {
			a[i] |= b[i]
		}
		return a
	}
	return fewest(toldBy(n, faults, tests), either), api.OK
}

// Can returns which faults there can be by the results of tests (-1: none).
func Can(n api.GaNet, faults []api.GaFault, tests, results [][]int) ([]int, api.Errno) {
	if e := testsError(n, faults, tests); e != api.OK {
		return nil, e
	}
	sameLength := func(a, b []int) bool { return len(a) == len(b) }
	if !slices.EqualFunc(tests, results, sameLength) {
		return nil, api.ErrArg
	}
	w := withFaults(n, faults)
	var can []int
	for net := range len(faults) + 1 {
		if w.gives(net, tests, results) {
			can = append(can, net-1)
		}
	}
	return can, api.OK
}

// gives reports whether the outputs of a net in some tests are the results.
func (w *nets) gives(net int, tests, results [][]int) bool {
	for i, test := range tests {
		for beat := range w.beats(test) {
			if w.output(net) != results[i][beat] {
				return false
			}
		}
	}
	return true
}

// testsError returns the error of a net, of faults and of tests.
func testsError(n api.GaNet, faults []api.GaFault, tests [][]int) api.Errno {
	if e := netError(n); e != api.OK {
		return e
	}
	if len(faults) > api.MaxGaFaults || len(tests) > api.MaxGaTests {
		return api.ErrLong
	}
	for _, f := range faults {
		if e := faultError(n, f); e != api.OK {
			return e
		}
	}
	for _, test := range tests {
		if e := inputsError(n, test); e != api.OK {
			return e
		}
	}
	return api.OK
}

// toldBy returns for each test which nets it tells apart: the one without a fault, and those with each fault.
func toldBy(n api.GaNet, faults []api.GaFault, tests [][]int) []apart {
	w := withFaults(n, faults)
	told := make([]apart, len(tests))
	for i, test := range tests {
		for range w.beats(test) {
			for _, signal := range w.Outputs {
				told[i].split(w.signals[signal])
			}
		}
	}
	return told
}

// split tells the nets in which a signal is 1 apart from those in which it is 0.
func (a *apart) split(word uint64) {
	for net := range a {
		a[net] |= word ^ everywhere(word>>net)
	}
}

// foundBy returns for each test which nets it tells apart from the one without a fault.
func foundBy(n api.GaNet, faults []api.GaFault, tests [][]int) []uint64 {
	found := make([]uint64, len(tests))
	for i, told := range toldBy(n, faults, tests) {
		found[i] = told[0]
	}
	return found
}

// fewest returns the first one of the shortest choices of tests that do together what all tests do.
func fewest[T comparable](does []T, either func(T, T) T) []int {
	together := func(tests []int) T {
		var all T
		for _, i := range tests {
			all = either(all, does[i])
		}
		return all
	}
	wanted := together(numbersBelow(len(does)))
	for choice := range choices(len(does)) {
		if together(choice) == wanted {
			return choice
		}
	}
	return nil
}

// choices yields all choices among some tests, the shorter ones first, and those of the same length in order.
func choices(count int) iter.Seq[[]int] {
	return func(yield func([]int) bool) {
		for size := range count + 1 {
			choice := numbersBelow(size)
			for more := true; more; more = advance(choice, count) {
				if !yield(slices.Clone(choice)) {
					return
				}
			}
		}
	}
}

// advance makes a choice among some tests the next one of its length, and reports whether there is one.
func advance(choice []int, count int) bool {
	for i := len(choice) - 1; i >= 0; i-- {
		if choice[i] < count-len(choice)+i {
			first := choice[i] + 1
			for k := range choice[i:] {
				choice[i+k] = first + k
			}
			return true
		}
	}
	return false
}

// numbersBelow returns the numbers from 0 and below a limit.
func numbersBelow(limit int) []int {
	numbers := make([]int, limit)
	for i := range numbers {
		numbers[i] = i
	}
	return numbers
}
