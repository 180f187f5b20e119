package layout_test

import (
	"math"
	"math/rand"
	"slices"
	"testing"

	"quicksilver/api"
	"quicksilver/layout"
)

// taskT and taskU are T and U of the chapter's examples.
func taskT() api.LaTask {
	return api.LaTask{
		Orders: []api.LaOrder{{Op: api.OrAdd, From: 0, To: 1, Next: 1}, {Op: api.OrTest, From: 1, To: 0, Next: 1}},
		Data:   2, Lines: 1,
		Paths: []api.LaPath{{Orders: []int{0, 1, 0}, Count: 10}},
	}
}

func taskU() api.LaTask {
	x := taskT()
	x.Orders[0].Op = api.OrMul
	return x
}

// looped is a task of one order that goes on to itself, and is done so often.
func looped(op, often int) api.LaTask {
	return api.LaTask{Orders: []api.LaOrder{{Op: op}}, Data: 1, Lines: 1, Paths: []api.LaPath{{Orders: make([]int, often+1), Count: 1}}}
}

// extremes are numbers at which arithmetic could go wrong.
func extremes() []int {
	return []int{math.MinInt, math.MinInt + 1, -1 << 32, -1, 0, 1, 7, 8, 9, 15, 16, 17, 127, 128, 1000, 1001, 1<<24 - 1, 1 << 24, 1 << 32, math.MaxInt - 1, math.MaxInt}
}

// copied is a task in memory of its own.
func copied(x api.LaTask) api.LaTask {
	x.Orders, x.Paths = slices.Clone(x.Orders), slices.Clone(x.Paths)
	for i := range x.Paths {
		x.Paths[i].Orders = slices.Clone(x.Paths[i].Orders)
	}
	return x
}

// same reports whether two tasks are the same.
func same(a, b api.LaTask) bool {
	return slices.Equal(a.Orders, b.Orders) && a.Data == b.Data && a.Lines == b.Lines &&
		slices.EqualFunc(a.Paths, b.Paths, func(p, q api.LaPath) bool {
			return slices.Equal(p.Orders, q.Orders) && p.Count == q.Count
		})
}

// someTask returns a task with at most so many orders and data, on lines that are enough for it.
func someTask(r *rand.Rand, orders, data int) api.LaTask {
	x := api.LaTask{Orders: make([]api.LaOrder, 1+r.Intn(orders)), Data: r.Intn(data + 1)}
	for i := range x.Orders {
		x.Orders[i] = someOrder(r, len(x.Orders), x.Data)
	}
	least := (len(x.Orders) + x.Data + 15) / 16
	x.Lines = least + r.Intn(9-least)
	if r.Intn(2) == 0 {
		x.Lines = least
	}
	x.Paths = make([]api.LaPath, r.Intn(5))
	for i := range x.Paths {
		x.Paths[i] = somePath(r, x)
	}
	return x
}

// someOrder returns an order; what its Op does not use is no index now and then.
func someOrder(r *rand.Rand, orders, data int) api.LaOrder {
	if data == 0 {
		return api.LaOrder{Op: api.OrHalt, From: r.Intn(9) - 4, To: r.Intn(9) - 4, Next: r.Intn(9) - 4}
	}
	o := api.LaOrder{Op: 1 + r.Intn(7), From: r.Intn(data), To: r.Intn(data), Next: r.Intn(orders)}
	switch {
	case r.Intn(20) == 0:
		o = api.LaOrder{Op: api.OrHalt, From: -1, To: math.MaxInt, Next: math.MinInt}
	case o.Op == api.OrTest:
		o.To = r.Intn(orders)
	case o.Op == api.OrRead:
		o.From = r.Intn(9) - 4
	case o.Op == api.OrPrint:
		o.To = r.Intn(9) - 4
	}
	return o
}

// somePath returns a path of a task.
func somePath(r *rand.Rand, x api.LaTask) api.LaPath {
	path := api.LaPath{Orders: []int{r.Intn(len(x.Orders))}, Count: 1 + r.Intn(6)}
	if r.Intn(4) == 0 {
		path.Count = 1 + r.Intn(1000)
	}
	many := 1 + r.Intn(8)
	if r.Intn(6) == 0 {
		many = 24
	}
	for len(path.Orders) < many {
		o := x.Orders[path.Orders[len(path.Orders)-1]]
		switch {
		case o.Op == api.OrHalt:
			return path
		case o.Op == api.OrTest && r.Intn(2) == 0:
			path.Orders = append(path.Orders, o.To)
		default:
			path.Orders = append(path.Orders, o.Next)
		}
	}
	return path
}

// someLayout returns a layout of a task.
func someLayout(r *rand.Rand, x api.LaTask) []int {
	return r.Perm(16 * x.Lines)[:len(x.Orders)+x.Data]
}

// someWords returns words for the data of a task.
func someWords(r *rand.Rand, x api.LaTask) []int {
	words := make([]int, x.Data)
	for i := range words {
		words[i] = r.Intn(api.OrWord)
	}
	return words
}

// cost, bounded, accepted, good, best and lay are what the functions return for arguments without an error.
func cost(t *testing.T, x api.LaTask, at []int) int {
	t.Helper()
	n, e := layout.Cost(x, at)
	if e != api.OK {
		t.Fatalf("Cost of %v, %v: %d", x, at, e)
	}
	return n
}

func bounded(t *testing.T, x api.LaTask) ([]api.LaPair, int) {
	t.Helper()
	proof, n, e := layout.Bound(x)
	if e != api.OK {
		t.Fatalf("Bound of %v: %d", x, e)
	}
	return proof, n
}

func accepted(t *testing.T, x api.LaTask, proof []api.LaPair) int {
	t.Helper()
	n, e := layout.Accept(x, proof)
	if e != api.OK {
		t.Fatalf("Accept of %v, %v: %d", x, proof, e)
	}
	return n
}

func good(t *testing.T, x api.LaTask) []int {
	t.Helper()
	at, e := layout.Good(x)
	if e != api.OK {
		t.Fatalf("Good of %v: %d", x, e)
	}
	return at
}

func best(t *testing.T, x api.LaTask) []int {
	t.Helper()
	at, e := layout.Best(x)
	if e != api.OK {
		t.Fatalf("Best of %v: %d", x, e)
	}
	return at
}

func lay(t *testing.T, x api.LaTask, at, words []int) []int {
	t.Helper()
	store, e := layout.Lay(x, at, words)
	if e != api.OK {
		t.Fatalf("Lay of %v, %v: %d", x, at, e)
	}
	return store
}
