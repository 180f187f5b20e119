package gate_test

import (
	"math"
	"math/rand"
	"slices"
	"testing"

	"quicksilver/api"
	"quicksilver/gate"
)

// The faults and tests of the chapter's examples.
func someOfAdder() []api.GaFault {
	return []api.GaFault{stuck(7, 0), stuck(2, 1), stuck(6, 0), stuck(4, 0)}
}

func testsOfAdder() [][]int { return [][]int{{3, 0}, {0}, {3, 1, 0}} }

// P2.5
func TestTables(t *testing.T) {
	faults, tests := someOfAdder(), testsOfAdder()
	ends := []api.GaFault{stuck(0, 0), stuck(1, 0)}
	yes, no := true, false
	for i, c := range []struct {
		faults    []api.GaFault
		tests     [][]int
		table     [][]bool
		few, tell []int
	}{
		{faults, tests, [][]bool{{yes, yes, no, yes}, {no, yes, no, no}, {yes, yes, yes, yes}}, []int{2}, []int{0, 2}},
		{faults[:3], tests, [][]bool{{yes, yes, no}, {no, yes, no}, {yes, yes, yes}}, []int{2}, []int{2}},
		{faults[1:3], tests[:2], [][]bool{{yes, no}, {yes, no}}, []int{0}, []int{0}},
		{faults[2:3], tests[:2], [][]bool{{no}, {no}}, nil, nil},
		{faults, nil, nil, nil, nil},
		{nil, tests, [][]bool{nil, nil, nil}, nil, nil},
		{nil, nil, nil, nil, nil},
		{faults, [][]int{nil, {0}, nil}, [][]bool{make([]bool, 4), {no, yes, no, no}, make([]bool, 4)}, []int{1}, []int{1}},
		// One test does in place of two; of several that do, the first ones.
		{ends, [][]int{{1}, {2}, {2}, {0}}, [][]bool{{yes, no}, {no, yes}, {no, yes}, {no, no}}, []int{0, 1}, []int{0, 1}},
		{ends, [][]int{{0}, {2, 1}, {1, 1}, {2}}, [][]bool{{no, no}, {yes, yes}, {yes, no}, {no, yes}}, []int{1}, []int{1}},
		{ends, [][]int{{2}, {0}, {2}, {1}, {1}}, [][]bool{{no, yes}, {no, no}, {no, yes}, {yes, no}, {yes, no}}, []int{0, 3}, []int{0, 3}},
		// The same fault twice, and one that the net does not have.
		{[]api.GaFault{stuck(0, 0), stuck(0, 0)}, [][]int{{1}, {1}}, [][]bool{{yes, yes}, {yes, yes}}, []int{0}, []int{0}},
		{make([]api.GaFault, 12), slices.Repeat([][]int{make([]int, 32)}, 10), slices.Repeat([][]bool{make([]bool, 12)}, 10), nil, nil},
	} {
		table, e := gate.Table(adder(), c.faults, c.tests)
		few, f := gate.Fewest(adder(), c.faults, c.tests)
		tell, h := gate.Tell(adder(), c.faults, c.tests)
		if !slices.EqualFunc(table, c.table, slices.Equal[[]bool]) || e != api.OK {
			t.Errorf("%d: Table: %v, %d", i, table, e)
		}
		if !slices.Equal(few, c.few) || f != api.OK || !slices.Equal(tell, c.tell) || h != api.OK {
			t.Errorf("%d: Fewest: %v, %d; Tell: %v, %d", i, few, f, tell, h)
		}
	}
}

// P2.5 and P2.6: the order of errors.
func TestTestsErrors(t *testing.T) {
	long := make([]int, 33)
	for i, c := range []struct {
		faults []api.GaFault
		tests  [][]int
		e      api.Errno
	}{
		{make([]api.GaFault, 13), nil, api.ErrLong},
		{make([]api.GaFault, 13), [][]int{{4}}, api.ErrLong},
		{[]api.GaFault{stuck(8, 0)}, make([][]int, 11), api.ErrLong},
		{nil, make([][]int, 11), api.ErrLong},
		{append(make([]api.GaFault, 11), stuck(0, 2)), nil, api.ErrRange},
		{[]api.GaFault{stuck(0, 0), stuck(8, 2)}, [][]int{{4}}, api.ErrNone},
		{[]api.GaFault{stuck(0, 2), stuck(8, 0)}, [][]int{long}, api.ErrRange},
		{[]api.GaFault{stuck(8, 0), stuck(0, 2)}, [][]int{{4}}, api.ErrNone},
		{[]api.GaFault{stuck(-1, 0)}, [][]int{long}, api.ErrNone},
		{[]api.GaFault{stuck(math.MaxInt, math.MinInt)}, nil, api.ErrNone},
		{[]api.GaFault{stuck(7, math.MinInt)}, nil, api.ErrRange},
		{nil, [][]int{{0}, long, {4}}, api.ErrLong},
		{nil, [][]int{{0}, {0, 4}, long}, api.ErrRange},
		{nil, [][]int{slices.Repeat([]int{4}, 33)}, api.ErrLong},
		{nil, [][]int{{3, -1}}, api.ErrRange},
		{nil, append(make([][]int, 9), []int{4}), api.ErrRange},
	} {
		table, e := gate.Table(adder(), c.faults, c.tests)
		few, f := gate.Fewest(adder(), c.faults, c.tests)
		tell, h := gate.Tell(adder(), c.faults, c.tests)
		can, k := gate.Can(adder(), c.faults, c.tests, make([][]int, len(c.tests)+1))
		if e != c.e || f != c.e || h != c.e || k != c.e || len(table)+len(few)+len(tell)+len(can) > 0 {
			t.Errorf("%d: %v, %d; %v, %d; %v, %d; %v, %d", i, table, e, few, f, tell, h, can, k)
		}
	}
}

// P2.6
func TestCan(t *testing.T) {
	for i, c := range []struct {
		tests, results [][]int
		want           []int
		e              api.Errno
	}{
		{[][]int{{3, 0}, {3, 1, 0}}, [][]int{{0, 0}, {0, 0, 0}}, []int{3}, api.OK},
		{[][]int{{3, 0}}, [][]int{{0, 0}}, []int{0, 3}, api.OK},
		{[][]int{{3, 0}}, [][]int{{0, 1}}, []int{-1, 2}, api.OK},
		{testsOfAdder(), [][]int{{0, 1}, {0}, {0, 0, 1}}, []int{-1}, api.OK},
		{[][]int{{0}}, [][]int{{0}}, []int{-1, 0, 2, 3}, api.OK},
		{[][]int{{0}}, [][]int{{1}}, []int{1}, api.OK},
		{[][]int{{0}}, [][]int{{2}}, nil, api.OK},
		{[][]int{{0}}, [][]int{{-1}}, nil, api.OK},
		{[][]int{{0}}, [][]int{{1 << 32}}, nil, api.OK},
		{[][]int{{0}}, [][]int{{math.MinInt}}, nil, api.OK},
		{[][]int{{0}}, [][]int{{math.MaxInt}}, nil, api.OK},
		{nil, nil, []int{-1, 0, 1, 2, 3}, api.OK},
		{[][]int{nil, nil}, [][]int{nil, {}}, []int{-1, 0, 1, 2, 3}, api.OK},
		{[][]int{{0}}, nil, nil, api.ErrArg},
		{nil, [][]int{nil}, nil, api.ErrArg},
		{[][]int{{0}}, [][]int{{0}, {0}}, nil, api.ErrArg},
		{[][]int{{0}, {0}}, [][]int{{0}}, nil, api.ErrArg},
		{[][]int{{0}, {0, 0}}, [][]int{{0}, {0}}, nil, api.ErrArg},
		{[][]int{{0}, {0}}, [][]int{{0}, {0, 0}}, nil, api.ErrArg},
		{[][]int{{0}, nil}, [][]int{{2}, {0}}, nil, api.ErrArg},
		{[][]int{{4}}, nil, nil, api.ErrRange},
		{make([][]int, 11), nil, nil, api.ErrLong},
	} {
		if can, e := gate.Can(adder(), someOfAdder(), c.tests, c.results); !slices.Equal(can, c.want) || e != c.e {
			t.Errorf("%d: Can: %v, %d", i, can, e)
		}
	}
	for _, f := range []struct {
		fault api.GaFault
		e     api.Errno
	}{{stuck(8, 2), api.ErrNone}, {stuck(7, 2), api.ErrRange}} {
		if can, e := gate.Can(adder(), []api.GaFault{f.fault}, nil, make([][]int, 1)); len(can) > 0 || e != f.e {
			t.Errorf("Can with %v: %v, %d", f.fault, can, e)
		}
	}
}

// plainTold returns for each test which of the net without a fault, and those with each fault, it tells apart.
func plainTold(n api.GaNet, faults []api.GaFault, tests [][]int) [][]bool {
	told := make([][]bool, len(tests))
	for i, test := range tests {
		all := plainAll(n, faults, test)
		for _, a := range all {
			for _, b := range all {
				told[i] = append(told[i], !slices.Equal(a, b))
			}
		}
	}
	return told
}

// plainFewest tries out all choices of tests that have a true wherever some test has one.
func plainFewest(does [][]bool) []int {
	best := make([]int, len(does)+1)
	for mask := range 1 << len(does) {
		var choice []int
		for i := range does {
			if mask>>i&1 == 1 {
				choice = append(choice, i)
			}
		}
		shorter := len(choice) < len(best) || len(choice) == len(best) && slices.Compare(choice, best) < 0
		if shorter && doesAll(does, choice) {
			best = choice
		}
	}
	return best
}

// doesAll reports whether a choice of tests has a true wherever some test has one.
func doesAll(does [][]bool, choice []int) bool {
	for _, all := range does {
		for k, some := range all {
			if some && !slices.ContainsFunc(choice, func(i int) bool { return does[i][k] }) {
				return false
			}
		}
	}
	return true
}

// P2.5 and P2.10 against the definitions.
func TestTablesPlain(t *testing.T) {
	r := rand.New(rand.NewSource(5))
	several, more := 0, 0
	for range 1500 {
		n := someNet(r, 3+r.Intn(4), 1+r.Intn(4), 24, 5)
		for i := range n.Outputs {
			n.Outputs[i] = max(0, n.Inputs+len(n.Gates)-1-i)
		}
		faults, tests := someFaults(r, n, 12), someTests(r, n, 7, 3)
		for len(faults) < 6 && r.Intn(10) > 0 {
			faults = append(faults, someFault(r, n))
		}
		told := plainTold(n, faults, tests)
		found := make([][]bool, len(tests))
		for i := range tests {
			found[i] = told[i][1 : len(faults)+1]
		}
		table, e := gate.Table(n, faults, tests)
		if !slices.EqualFunc(table, found, slices.Equal[[]bool]) || e != api.OK {
			t.Fatalf("Table of %v, %v, %v: %v, %d, not %v", n, faults, tests, table, e, found)
		}
		few, e := gate.Fewest(n, faults, tests)
		if want := plainFewest(found); !slices.Equal(few, want) || e != api.OK {
			t.Fatalf("Fewest of %v, %v, %v: %v, %d, not %v", n, faults, tests, few, e, want)
		}
		tell, e := gate.Tell(n, faults, tests)
		if want := plainFewest(told); !slices.Equal(tell, want) || e != api.OK {
			t.Fatalf("Tell of %v, %v, %v: %v, %d, not %v", n, faults, tests, tell, e, want)
		}
		if len(few) > 1 {
			several++
		}
		if len(tell) > len(few) {
			more++
		}
	}
	if several < 150 || more < 50 {
		t.Errorf("only %d times several tests were needed, only %d times more of them to tell apart", several, more)
	}
}

// P2.5: as many faults, tests and beats as there can be.
func TestTablesLargest(t *testing.T) {
	r := rand.New(rand.NewSource(6))
	for range 20 {
		n := net(6, []int{29, 28, 27, 26})
		for i := range 24 {
			n.Gates = append(n.Gates, g(1+r.Intn(3), r.Intn(6+i), r.Intn(6+i)))
		}
		faults, tests := make([]api.GaFault, 12), make([][]int, 10)
		for i := range faults {
			faults[i] = someFault(r, n)
		}
		for i := range tests {
			for range 32 {
				tests[i] = append(tests[i], r.Intn(64))
			}
			if i > 0 {
				tests[i] = tests[i][:1]
			}
		}
		told := plainTold(n, faults, tests)
		few, e := gate.Fewest(n, faults, tests)
		tell, f := gate.Tell(n, faults, tests)
		found := make([][]bool, len(tests))
		for i := range tests {
			found[i] = told[i][1:13]
		}
		if !slices.Equal(few, plainFewest(found)) || e != api.OK || !slices.Equal(tell, plainFewest(told)) || f != api.OK {
			t.Errorf("%v, %v, %v: %v, %d; %v, %d", n, faults, tests, few, e, tell, f)
		}
	}
}

// P2.5 and P2.10: each of ten inputs has a fault of its own, so all tests are needed; and the last one does what all do.
func TestAllTests(t *testing.T) {
	n := net(6, []int{0, 1, 2, 3})
	var faults []api.GaFault
	var tests [][]int
	for i := range 4 {
		faults = append(faults, stuck(i, 0))
		tests = append(tests, []int{1 << i})
	}
	if few, e := gate.Fewest(n, faults, tests); !slices.Equal(few, []int{0, 1, 2, 3}) || e != api.OK {
		t.Errorf("Fewest: %v, %d", few, e)
	}
	tests = append(tests, make([]int, 32), []int{1, 2}, []int{15})
	if few, e := gate.Fewest(n, faults, tests); !slices.Equal(few, []int{6}) || e != api.OK {
		t.Errorf("Fewest with a test for all: %v, %d", few, e)
	}
	if few, e := gate.Fewest(n, faults, tests[:6]); !slices.Equal(few, []int{2, 3, 5}) || e != api.OK {
		t.Errorf("Fewest with a test for two: %v, %d", few, e)
	}
}

// P2.6 and P2.12 against the definition; what is there is among what can be, and a further test adds nothing.
func TestCanPlain(t *testing.T) {
	r := rand.New(rand.NewSource(12))
	for range 3000 {
		n := anyNet(r)
		faults, tests := someFaults(r, n, 12), someTests(r, n, 5, 6)
		is := r.Intn(len(faults)+1) - 1
		results := make([][]int, len(tests))
		fits := slices.Repeat([]bool{true}, len(faults)+1)
		other := r.Intn(4) == 0
		for i, test := range tests {
			all := plainAll(n, faults, test)
			results[i] = slices.Clone(all[is+1])
			if other && len(test) > 0 {
				results[i][r.Intn(len(test))] = r.Intn(1 << len(n.Outputs))
			}
			for k := range fits {
				fits[k] = fits[k] && slices.Equal(all[k], results[i])
			}
		}
		var want []int
		for k, fit := range fits {
			if fit {
				want = append(want, k-1)
			}
		}
		can, e := gate.Can(n, faults, tests, results)
		if !slices.Equal(can, want) || e != api.OK || !other && !slices.Contains(can, is) {
			t.Fatalf("Can of %v, %v, %v, %v: %v, %d, not %v", n, faults, tests, results, can, e, want)
		}
		for count := range tests {
			less, _ := gate.Can(n, faults, tests[:count], results[:count])
			for _, k := range can {
				if !slices.Contains(less, k) {
					t.Fatalf("Can of %v, %v, %v, %v: %v with all tests, %v with %d", n, faults, tests, results, can, less, count)
				}
			}
		}
	}
}
