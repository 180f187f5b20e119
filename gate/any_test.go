package gate_test

import (
	"math"
	"math/rand"
	"reflect"
	"slices"
	"testing"

	"quicksilver/api"
	"quicksilver/gate"
)

// anyInt returns a number that is as stated now and then, and far beyond it otherwise.
func anyInt(r *rand.Rand) int {
	switch r.Intn(4) {
	case 0:
		return extremes()[r.Intn(len(extremes()))]
	case 1:
		return int(r.Uint64())
	}
	return r.Intn(36) - 2
}

// spoiltNet returns a net of which some numbers are not as stated.
func spoiltNet(r *rand.Rand) api.GaNet {
	n := anyNet(r)
	for range r.Intn(3) {
		switch r.Intn(6) {
		case 0:
			n.Inputs = anyInt(r)
		case 1:
			n.Outputs = slices.Repeat([]int{anyInt(r)}, r.Intn(7))
		case 2:
			n.Gates = append(n.Gates, slices.Repeat([]api.GaGate{g(anyInt(r), 0, 0)}, r.Intn(30))...)
		default:
			if len(n.Gates) > 0 {
				n.Gates[r.Intn(len(n.Gates))] = g(1+r.Intn(7), anyInt(r), anyInt(r))
			}
		}
	}
	return n
}

// anyLists returns lists of numbers of which some are not as stated.
func anyLists(r *rand.Rand, most int) [][]int {
	lists := make([][]int, r.Intn(most+1))
	for i := range lists {
		lists[i] = make([]int, r.Intn(40)>>r.Intn(6))
		for k := range lists[i] {
			lists[i][k] = r.Intn(2)
			if r.Intn(40) == 0 {
				lists[i][k] = anyInt(r)
			}
		}
	}
	return lists
}

// anyFaults returns faults of which some are not as stated.
func anyFaults(r *rand.Rand) []api.GaFault {
	faults := make([]api.GaFault, r.Intn(14))
	for i := range faults {
		faults[i] = stuck(r.Intn(2), r.Intn(2))
		if r.Intn(20) == 0 {
			faults[i] = stuck(anyInt(r), anyInt(r))
		}
	}
	return faults
}

// P2.15 and P1: whatever the arguments, the calls come back, and with an error all else is zero.
func TestAnyArguments(t *testing.T) {
	r := rand.New(rand.NewSource(1))
	for range 3000 {
		n, other := spoiltNet(r), spoiltNet(r)
		faults, tests, results := anyFaults(r), anyLists(r, 11), anyLists(r, 11)
		if r.Intn(2) == 0 {
			results = tests
		}
		list := slices.Concat(anyLists(r, 2)...)
		f := stuck(anyInt(r), r.Intn(3)-r.Intn(2))
		gate.Check(n)
		next, output, e := gate.Step(n, anyInt(r), anyInt(r))
		zero(t, "Step", e, next, output)
		run, e := gate.Run(n, list)
		zero(t, "Run", e, len(run))
		run, e = gate.Stuck(n, f, list)
		zero(t, "Stuck", e, len(run))
		inputs, e := gate.Differ(n, other)
		zero(t, "Differ", e, len(inputs))
		inputs, e = gate.Show(n, f)
		zero(t, "Show", e, len(inputs))
		table, e := gate.Table(n, faults, tests)
		zero(t, "Table", e, len(table))
		few, e := gate.Fewest(n, faults, tests)
		zero(t, "Fewest", e, len(few))
		tell, e := gate.Tell(n, faults, tests)
		zero(t, "Tell", e, len(tell))
		can, e := gate.Can(n, faults, tests, results)
		zero(t, "Can", e, len(can))
		text, e := gate.Write(n)
		zero(t, "Write", e, text)
		bytes := make([]byte, r.Intn(700))
		r.Read(bytes)
		read, e := gate.Read(string(bytes))
		zero(t, "Read", e, read.Inputs, len(read.Gates), len(read.Outputs))
	}
}

// zero fails if there is an error, and a result is not zero.
func zero(t *testing.T, call string, e api.Errno, results ...any) {
	t.Helper()
	for _, x := range results {
		if e != api.OK && !reflect.ValueOf(x).IsZero() {
			t.Fatalf("%s with the error %d: %v", call, e, results)
		}
	}
}

// callAll calls all functions, and spoils their results.
func callAll(n, other api.GaNet, faults []api.GaFault, tests, results [][]int) {
	gate.Check(n)
	gate.Step(n, 0, 1)
	run, _ := gate.Run(n, tests[0])
	spoil(run)
	for _, f := range faults {
		run, _ = gate.Stuck(n, f, tests[1])
		spoil(run)
		run, _ = gate.Show(n, f)
		spoil(run)
	}
	run, _ = gate.Differ(n, other)
	spoil(run)
	table, _ := gate.Table(n, faults, tests)
	for _, row := range table {
		row = row[:cap(row)]
		for i := range row {
			row[i] = !row[i]
		}
	}
	few, _ := gate.Fewest(n, faults, tests)
	spoil(few)
	tell, _ := gate.Tell(n, faults, tests)
	spoil(tell)
	can, _ := gate.Can(n, faults, tests, results)
	spoil(can)
	text, _ := gate.Write(n)
	read, _ := gate.Read(text)
	spoil(read.Outputs)
	clear(read.Gates[:cap(read.Gates)])
}

// spoil writes over a result, up to its capacity.
func spoil(list []int) {
	list = list[:cap(list)]
	for i := range list {
		list[i] = math.MinInt
	}
}

// P2.15: arguments stay as they are, also behind their ends, and results have memory of their own.
func TestMemory(t *testing.T) {
	gates := append(adder().Gates, g(9, 9, 9), g(8, 8, 8))
	outputs := []int{4, 77, 78}
	faultRoom := append(someOfAdder(), stuck(5, 5))
	testRoom := append(testsOfAdder(), []int{55})
	resultRoom := [][]int{{0, 0}, {0}, {0, 0, 0}, {66}}
	keptGates, keptOutputs, keptFaults := slices.Clone(gates), slices.Clone(outputs), slices.Clone(faultRoom)
	n := net(2, outputs[:1], gates[:6]...)
	other := net(2, []int{5}, adder().Gates...)
	for range 2 {
		callAll(n, other, faultRoom[:4], testRoom[:3], resultRoom[:3])
	}
	sameLists := func(a, b [][]int) bool { return slices.EqualFunc(a, b, slices.Equal[[]int]) }
	if !slices.Equal(gates, keptGates) || !slices.Equal(outputs, keptOutputs) || !slices.Equal(faultRoom, keptFaults) {
		t.Errorf("arguments were changed: %v, %v, %v", gates, outputs, faultRoom)
	}
	if !sameLists(testRoom, append(testsOfAdder(), []int{55})) || !sameLists(resultRoom, [][]int{{0, 0}, {0}, {0, 0, 0}, {66}}) {
		t.Errorf("arguments were changed: %v, %v", testRoom, resultRoom)
	}
	table, _ := gate.Table(n, faultRoom[:4], testRoom[:3])
	tell, _ := gate.Tell(n, faultRoom[:4], testRoom[:3])
	can, _ := gate.Can(n, faultRoom[:4], testRoom[:3], resultRoom[:3])
	read, _ := gate.Read(adderText)
	if !table[0][0] || table[0][2] || !slices.Equal(tell, []int{0, 2}) || !slices.Equal(can, []int{3}) || !same(read, adder()) {
		t.Errorf("results depend on earlier ones: %v, %v, %v, %v", table, tell, can, read)
	}
}
