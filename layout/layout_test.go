package layout_test

import (
	"math"
	"math/rand"
	"slices"
	"testing"

	"quicksilver/api"
	"quicksilver/layout"
	"quicksilver/order"
)

// wrongTasks are changes that spoil T; several of them make more than one error, of which the first one counts.
func wrongTasks() []struct {
	spoil    func(x *api.LaTask)
	part, at int
	e        api.Errno
} {
	return []struct {
		spoil    func(x *api.LaTask)
		part, at int
		e        api.Errno
	}{
		{func(x *api.LaTask) { x.Orders = nil }, 1, 0, api.ErrLong},
		{func(x *api.LaTask) { x.Orders, x.Data = []api.LaOrder{}, -1 }, 1, 0, api.ErrLong},
		{func(x *api.LaTask) { x.Orders, x.Lines = make([]api.LaOrder, 25), 9 }, 1, 0, api.ErrLong},
		{func(x *api.LaTask) { x.Paths, x.Data = make([]api.LaPath, 9), 17 }, 1, 0, api.ErrLong},
		{func(x *api.LaTask) { x.Data = -1 }, 1, 0, api.ErrRange},
		{func(x *api.LaTask) { x.Data = 17 }, 1, 0, api.ErrRange},
		{func(x *api.LaTask) { x.Data, x.Orders[0].Op = math.MaxInt, 8 }, 1, 0, api.ErrRange},
		{func(x *api.LaTask) { x.Lines = 0 }, 1, 0, api.ErrRange},
		{func(x *api.LaTask) { x.Lines = 9 }, 1, 0, api.ErrRange},
		{func(x *api.LaTask) { x.Lines = math.MinInt }, 1, 0, api.ErrRange},
		{func(x *api.LaTask) { x.Data, x.Lines = 15, -1 }, 1, 0, api.ErrRange},
		{func(x *api.LaTask) { x.Data = 15 }, 1, 0, api.ErrLong},
		{func(x *api.LaTask) { x.Data, x.Orders[0].Op = 16, -1 }, 1, 0, api.ErrLong},
		{func(x *api.LaTask) { x.Orders = make([]api.LaOrder, 24) }, 1, 0, api.ErrLong},
		{func(x *api.LaTask) { x.Orders[0].Op, x.Orders[0].Next = -1, 2 }, 2, 0, api.ErrArg},
		{func(x *api.LaTask) { x.Orders[1].Op, x.Paths[0].Count = 8, 0 }, 2, 1, api.ErrArg},
		{func(x *api.LaTask) { x.Orders[0].Next, x.Orders[1].Op = 2, 8 }, 2, 0, api.ErrNone},
		{func(x *api.LaTask) { x.Data = 0 }, 2, 0, api.ErrNone},
		{func(x *api.LaTask) { x.Orders[1].From, x.Paths[0].Orders = 2, nil }, 2, 1, api.ErrNone},
		{func(x *api.LaTask) { x.Orders[1].To = 2 }, 2, 1, api.ErrNone},
		{func(x *api.LaTask) { x.Orders[1].To = math.MinInt }, 2, 1, api.ErrNone},
		{func(x *api.LaTask) { x.Orders[1].Next = math.MaxInt }, 2, 1, api.ErrNone},
		{func(x *api.LaTask) { x.Paths[0] = api.LaPath{} }, 3, 0, api.ErrLong},
		{func(x *api.LaTask) { x.Paths[0] = api.LaPath{Orders: make([]int, 25), Count: 1001} }, 3, 0, api.ErrLong},
		{func(x *api.LaTask) { x.Paths[0] = api.LaPath{Orders: []int{2}} }, 3, 0, api.ErrRange},
		{func(x *api.LaTask) { x.Paths[0].Count = -1 }, 3, 0, api.ErrRange},
		{func(x *api.LaTask) { x.Paths[0].Count, x.Paths[0].Orders = 1001, []int{0, 0} }, 3, 0, api.ErrRange},
		{func(x *api.LaTask) { x.Paths[0].Orders = []int{0, 0, 2} }, 3, 0, api.ErrNone},
		{func(x *api.LaTask) { x.Paths[0].Orders = []int{0, 0, -1} }, 3, 0, api.ErrNone},
		{func(x *api.LaTask) { x.Paths[0].Orders = []int{math.MaxInt} }, 3, 0, api.ErrNone},
		{func(x *api.LaTask) { x.Paths[0].Orders = []int{0, 1, 0, 0} }, 3, 0, api.ErrArg},
		{func(x *api.LaTask) { x.Orders[0].Op = api.OrHalt }, 3, 0, api.ErrArg},
		{func(x *api.LaTask) { x.Orders[1].Op = api.OrMove }, 3, 0, api.ErrArg},
		{func(x *api.LaTask) {
			x.Paths = []api.LaPath{{Orders: []int{0}, Count: 1}, {Orders: []int{0, 0}, Count: 1}, {}}
		}, 3, 1, api.ErrArg},
		{func(x *api.LaTask) {
			x.Paths = []api.LaPath{{Orders: []int{0}, Count: 1}, {Orders: []int{0}, Count: 1}, {Count: 0}}
		}, 3, 2, api.ErrLong},
	}
}

// rightTasks are changes after which T is still a task.
func rightTasks() []func(x *api.LaTask) {
	return []func(x *api.LaTask){
		func(x *api.LaTask) {},
		func(x *api.LaTask) { x.Paths = nil },
		func(x *api.LaTask) { x.Data = 14 },
		func(x *api.LaTask) { x.Data, x.Lines = 16, 8 },
		func(x *api.LaTask) { x.Orders, x.Lines, x.Paths = make([]api.LaOrder, 24), 2, nil },
		func(x *api.LaTask) { x.Orders, x.Data, x.Paths = make([]api.LaOrder, 1), 0, nil },
		func(x *api.LaTask) { x.Paths = slices.Repeat(x.Paths, 8) },
		func(x *api.LaTask) { x.Paths[0].Count = 1 },
		func(x *api.LaTask) { x.Paths[0].Count = 1000 },
		func(x *api.LaTask) { x.Paths[0].Orders = slices.Repeat([]int{1}, 24) },
		func(x *api.LaTask) { x.Paths[0].Orders = slices.Repeat([]int{1, 0}, 12) },
		func(x *api.LaTask) {
			x.Orders[0], x.Paths[0].Orders = api.LaOrder{From: 2, To: -1, Next: 9}, []int{1, 0}
		},
		func(x *api.LaTask) { x.Orders[0] = api.LaOrder{Op: api.OrRead, From: -1, Next: 1} },
		func(x *api.LaTask) { x.Orders[0] = api.LaOrder{Op: api.OrPrint, To: 2, Next: 1} },
	}
}

// P6.1, and the others: the error of the task comes before all else.
func TestCheck(t *testing.T) {
	for i, c := range wrongTasks() {
		x := taskT()
		c.spoil(&x)
		if part, at, e := layout.Check(x); part != c.part || at != c.at || e != c.e {
			t.Errorf("Check of the wrong task %d: %d, %d, %d, not %d, %d, %d", i, part, at, e, c.part, c.at, c.e)
		}
		n, e := layout.Cost(x, nil)
		proof, bound, f := layout.Bound(x)
		m, g := layout.Accept(x, make([]api.LaPair, 1501))
		if n != 0 || e != c.e || len(proof) != 0 || bound != 0 || f != c.e || m != 0 || g != c.e {
			t.Errorf("the wrong task %d: %d, %d; %v, %d, %d; %d, %d", i, n, e, proof, bound, f, m, g)
		}
		at, e := layout.Good(x)
		few, f := layout.Best(x)
		store, g := layout.Lay(x, nil, []int{-1})
		if len(at) != 0 || e != c.e || len(few) != 0 || f != c.e || len(store) != 0 || g != c.e {
			t.Errorf("the wrong task %d: %v, %d; %v, %d; %v, %d", i, at, e, few, f, store, g)
		}
	}
	for i, c := range rightTasks() {
		x := taskT()
		c(&x)
		if part, at, e := layout.Check(x); part != 0 || at != 0 || e != api.OK {
			t.Errorf("Check of the task %d: %d, %d, %d", i, part, at, e)
		}
	}
}

// P6.1: which indices are looked at, for each Op.
func TestLookedAt(t *testing.T) {
	for what := range 8 {
		from, to, next := what != 0 && what != 6, what != 0 && what != 7, what != 0
		data, orders := 3, 5
		for _, c := range []struct {
			o    api.LaOrder
			uses bool
			many int
		}{
			{api.LaOrder{From: 1}, from, data},
			{api.LaOrder{To: 1}, to, map[bool]int{false: data, true: orders}[what == 5]},
			{api.LaOrder{Next: 1}, next, orders},
		} {
			for _, n := range append(extremes(), 2, 3, 4, 5, 6) {
				x := api.LaTask{Orders: make([]api.LaOrder, orders), Data: data, Lines: 1}
				x.Orders[4] = api.LaOrder{Op: what, From: c.o.From * n, To: c.o.To * n, Next: c.o.Next * n}
				wantPart, wantAt, want := 0, 0, api.OK
				if c.uses && (n < 0 || n >= c.many) {
					wantPart, wantAt, want = 2, 4, api.ErrNone
				}
				if part, at, e := layout.Check(x); part != wantPart || at != wantAt || e != want {
					t.Errorf("Check of the order %v: %d, %d, %d, not %d", x.Orders[4], part, at, e, want)
				}
			}
		}
	}
}

// P6.1: to which orders an order leads.
func TestLeads(t *testing.T) {
	for what := range 8 {
		x := api.LaTask{Orders: make([]api.LaOrder, 4), Data: 4, Lines: 1}
		x.Orders[0] = api.LaOrder{Op: what, From: 3, To: 2, Next: 1}
		for next := range 4 {
			want := api.ErrArg
			if what != 0 && next == 1 || what == 5 && next == 2 {
				want = api.OK
			}
			x.Paths = []api.LaPath{{Orders: []int{0, next}, Count: 1}}
			if part, _, e := layout.Check(x); e != want || (part != 0) != (e != api.OK) {
				t.Errorf("Check of a path from %v to %d: %d, %d", x.Orders[0], next, part, e)
			}
		}
	}
}

// P6.2, with the chapter's examples.
func TestCost(t *testing.T) {
	halted := api.LaTask{Orders: []api.LaOrder{{Op: api.OrRead, Next: 1}, {Op: api.OrPrint, Next: 2}, {}}, Data: 1, Lines: 8, Paths: []api.LaPath{{Orders: []int{0, 1, 2}, Count: 3}, {Orders: []int{2}, Count: 1000}}}
	for _, c := range []struct {
		x  api.LaTask
		at []int
		n  int
	}{
		{taskT(), []int{0, 3, 1, 2}, 320},
		{taskT(), []int{0, 3, 2, 1}, 480},
		{taskT(), []int{0, 1, 2, 3}, 320},
		{taskU(), []int{0, 1, 2, 3}, 480},
		{looped(api.OrMove, 1), []int{0, 1}, 32},
		{looped(api.OrMul, 2), []int{7, 3}, 96},
		{looped(api.OrRead, 23), []int{7, 3}, 368},
		// 0, 1 and 17; 18, 33 and 34.
		{halted, []int{0, 17, 2, 33}, 3 * (1 + 16 + 16 + 1)},
		{halted, []int{112, 18, 3, 17}, 3 * (1 + 1 + 15 + 2)},
	} {
		if n, e := layout.Cost(c.x, c.at); n != c.n || e != api.OK {
			t.Errorf("Cost of %v, %v: %d, %d, not %d", c.x, c.at, n, e, c.n)
		}
	}
}

// P6.2 against the definition.
func TestCostPlain(t *testing.T) {
	r := rand.New(rand.NewSource(1))
	for range 3000 {
		x := someTask(r, 24, 16)
		at := someLayout(r, x)
		if n, want := cost(t, x, at), plainCost(x, at); n != want {
			t.Fatalf("Cost of %v, %v: %d, not %d", x, at, n, want)
		}
	}
}

// P6.2 and P6.5: the error of a layout; and those of words behind it.
func TestLayoutErrors(t *testing.T) {
	for _, c := range []struct {
		lines int
		at    []int
		e     api.Errno
	}{
		{1, nil, api.ErrLong},
		{1, []int{-1, -1, -1}, api.ErrLong},
		{1, []int{0, 1, 2, 3, 4}, api.ErrLong},
		{1, []int{0, 1, 2, 16}, api.ErrRange},
		{1, []int{-1, 1, 1, 2}, api.ErrRange},
		{1, []int{1, 1, -1, 2}, api.ErrTwice},
		{1, []int{3, 2, 1, 3}, api.ErrTwice},
		{1, []int{0, math.MinInt, 0, 1}, api.ErrRange},
		{1, []int{0, math.MaxInt, math.MaxInt, 1}, api.ErrRange},
		{2, []int{0, 31, 32, 0}, api.ErrRange},
		{2, []int{0, 31, 0, 32}, api.ErrTwice},
		{8, []int{0, 127, 1, 128}, api.ErrRange},
		{8, []int{127, 0, 126, 127}, api.ErrTwice},
	} {
		x := taskT()
		x.Lines = c.lines
		n, e := layout.Cost(x, c.at)
		store, f := layout.Lay(x, c.at, []int{-1})
		if n != 0 || e != c.e || len(store) != 0 || f != c.e {
			t.Errorf("the layout %v: %d, %d; %v, %d, not %d", c.at, n, e, store, f, c.e)
		}
	}
	for _, c := range []struct {
		words []int
		e     api.Errno
	}{
		{nil, api.ErrLong}, {[]int{-1}, api.ErrLong}, {[]int{0, 0, 0}, api.ErrLong}, {[]int{-1, 0}, api.ErrRange}, {[]int{0, api.OrWord}, api.ErrRange},
		{[]int{math.MaxInt, math.MinInt}, api.ErrRange}, {[]int{0, api.OrWord - 1}, api.OK},
	} {
		store, e := layout.Lay(taskT(), []int{0, 3, 1, 2}, c.words)
		if e != c.e || (len(store) != 0) != (e == api.OK) {
			t.Errorf("Lay with the words %v: %v, %d, not %d", c.words, store, e, c.e)
		}
	}
}

// P6.5, with the chapter's example.
func TestLay(t *testing.T) {
	want := append([]int{4210947, 5, 7, 10518531}, make([]int, 124)...)
	if store := lay(t, taskT(), []int{0, 3, 1, 2}, []int{5, 7}); !slices.Equal(store, want) {
		t.Errorf("Lay of T: %v", store)
	}
	r := rand.New(rand.NewSource(2))
	for range 2000 {
		x := someTask(r, 24, 16)
		at, words := someLayout(r, x), someWords(r, x)
		if store := lay(t, x, at, words); !slices.Equal(store, plainLay(x, at, words)) {
			t.Fatalf("Lay of %v, %v, %v: %v", x, at, words, store)
		}
	}
}

// begun is the state with which a program begins, at an order.
func begun(t *testing.T, store, tape []int, start int) api.OrState {
	t.Helper()
	s, e := order.Begin(store, tape, start)
	if e != api.OK {
		t.Fatalf("Begin: %d", e)
	}
	return s
}

// ran is a state after an order.
func ran(t *testing.T, s api.OrState) api.OrState {
	t.Helper()
	s, e := order.Run(s, 1)
	if e != api.OK {
		t.Fatalf("Run: %d", e)
	}
	return s
}

// dataAt lists the words at the addresses of the data of a task.
func dataAt(x api.LaTask, layout, store []int) []int {
	var words []int
	for _, address := range layout[len(x.Orders):] {
		words = append(words, store[address])
	}
	return words
}

// P6.8: programs of any two layouts do the same, order by order.
func TestPrintsTheSame(t *testing.T) {
	r := rand.New(rand.NewSource(3))
	done := 0
	for range 1500 {
		x := someTask(r, 24, 16)
		words, tape, start := someWords(r, x), r.Perm(200)[:r.Intn(9)], r.Intn(len(x.Orders))
		a, b := someLayout(r, x), good(t, x)
		s, u := begun(t, lay(t, x, a, words), tape, a[start]), begun(t, lay(t, x, b, words), tape, b[start])
		for range 60 {
			s, u = ran(t, s), ran(t, u)
			if slices.Index(a, s.At) != slices.Index(b, u.At) || !slices.Equal(s.Printed, u.Printed) || s.Taken != u.Taken || s.Done != u.Done || s.Why != u.Why {
				t.Fatalf("%v, with the layouts %v and %v: %v and %v", x, a, b, s, u)
			}
			if !slices.Equal(dataAt(x, a, s.Store), dataAt(x, b, u.Store)) {
				t.Fatalf("%v, with the layouts %v and %v: other data in %v and %v", x, a, b, s, u)
			}
		}
		done += s.Done
	}
	if done < 10000 {
		t.Errorf("only %d orders", done)
	}
}

// P6.9: a run takes as many minor cycles as the path that it takes.
func TestRunTakesAsLong(t *testing.T) {
	r := rand.New(rand.NewSource(4))
	for range 3000 {
		x := someTask(r, 24, 16)
		at, words := someLayout(r, x), someWords(r, x)
		s := begun(t, lay(t, x, at, words), r.Perm(200)[:r.Intn(30)], at[r.Intn(len(x.Orders))])
		x.Paths = []api.LaPath{{Orders: []int{slices.Index(at, s.At)}, Count: 1}}
		from := s.Time
		for range r.Intn(24) {
			if s = ran(t, s); s.Why == api.OrGoing {
				x.Paths[0].Orders = append(x.Paths[0].Orders, slices.Index(at, s.At))
			}
		}
		if n := cost(t, x, at); n != s.Time-from {
			t.Fatalf("Cost of %v, %v: %d, but the run takes %d", x, at, n, s.Time-from)
		}
	}
}

// P6.10: turned by places, or with lines exchanged, a layout takes the same.
func TestTurned(t *testing.T) {
	r := rand.New(rand.NewSource(5))
	for range 1000 {
		x := someTask(r, 24, 16)
		at := someLayout(r, x)
		want, turned, lines := cost(t, x, at), slices.Clone(at), r.Perm(x.Lines)
		for range 17 {
			for i, address := range turned {
				turned[i] = address/16*16 + (address+1)%16
			}
			if n := cost(t, x, turned); n != want {
				t.Fatalf("Cost of %v, %v, turned: %d, not %d", x, at, n, want)
			}
		}
		for i, address := range at {
			turned[i] = lines[address/16]*16 + address%16
		}
		if n := cost(t, x, turned); n != want {
			t.Fatalf("Cost of %v, %v, in other lines: %d, not %d", x, at, n, want)
		}
	}
}
