package layout_test

import (
	"math/rand"
	"slices"
	"testing"

	"quicksilver/api"
	"quicksilver/layout"
)

// P6.4, with the chapter's examples.
func TestGood(t *testing.T) {
	prints := []api.LaOrder{{Op: api.OrPrint, From: 0, Next: 1}, {Op: api.OrPrint, From: 1, Next: 0}}
	wide := taskT()
	wide.Lines = 8
	for i, c := range []struct {
		x  api.LaTask
		at []int
	}{
		{taskT(), []int{0, 3, 1, 2}},
		{wide, []int{0, 3, 1, 2}},
		{taskU(), []int{0, 3, 1, 2}},
		// The path with the greater Count first; of equal ones the first.
		{api.LaTask{Orders: prints, Data: 3, Lines: 1, Paths: []api.LaPath{{Orders: []int{0, 1}, Count: 1}, {Orders: []int{1, 0}, Count: 2}}}, []int{2, 0, 3, 1, 4}},
		{api.LaTask{Orders: prints, Data: 3, Lines: 1, Paths: []api.LaPath{{Orders: []int{1, 0}, Count: 2}, {Orders: []int{0, 1}, Count: 2}}}, []int{2, 0, 3, 1, 4}},
		{api.LaTask{Orders: prints, Data: 3, Lines: 1, Paths: []api.LaPath{{Orders: []int{0, 1}, Count: 2}, {Orders: []int{1, 0}, Count: 2}}}, []int{0, 2, 1, 3, 4}},
		// What is in no path is laid at the end, orders and data.
		{api.LaTask{Orders: prints, Data: 2, Lines: 1}, []int{0, 1, 2, 3}},
		{api.LaTask{Orders: make([]api.LaOrder, 17), Data: 1, Lines: 2, Paths: []api.LaPath{{Orders: []int{4}, Count: 1}}}, []int{1, 2, 3, 4, 0, 5, 6, 7, 8, 9, 10, 11, 12, 13, 14, 15, 16, 17}},
	} {
		if at := good(t, c.x); !slices.Equal(at, c.at) {
			t.Errorf("Good of the task %d: %v, not %v", i, at, c.at)
		}
	}
}

// P6.4: a path that goes around a line, and comes to places that are taken: in a further line, or at a later place.
func TestGoodFull(t *testing.T) {
	x := api.LaTask{Data: 1, Lines: 2}
	for i := range 20 {
		x.Orders = append(x.Orders, api.LaOrder{Op: api.OrMove, Next: i + 1})
	}
	x.Orders[19] = api.LaOrder{}
	path := api.LaPath{Count: 1}
	for i := range x.Orders {
		path.Orders = append(path.Orders, i)
	}
	x.Paths = []api.LaPath{path}
	if at, want := good(t, x), plainGood(x); !slices.Equal(at, want) {
		t.Errorf("Good of a long path: %v, not %v", at, want)
	}
}

// P6.4 against the definition, and P6.11.
func TestGoodPlain(t *testing.T) {
	r := rand.New(rand.NewSource(10))
	for i := range 1500 {
		x := someTask(r, 1+i%12, 1+i%9)
		if i%20 == 0 {
			x = someTask(r, 24, 16)
		}
		at, want := good(t, x), plainGood(x)
		if !slices.Equal(at, want) {
			t.Fatalf("Good of %v: %v, not %v", x, at, want)
		}
		if n := cost(t, x, at); plainExchange(x, slices.Clone(at)) || n != plainCost(x, want) {
			t.Fatalf("Good of %v: %v can be better", x, at)
		}
	}
}

// P6.4, with the chapter's examples.
func TestBest(t *testing.T) {
	wide := looped(api.OrRead, 3)
	wide.Lines, wide.Data = 8, 3
	for i, c := range []struct {
		x  api.LaTask
		at []int
		e  api.Errno
	}{
		{taskT(), []int{0, 1, 2, 3}, api.OK},
		{taskU(), []int{0, 1, 2, 3}, api.OK},
		{wide, []int{0, 1, 2, 3}, api.OK},
		{api.LaTask{Orders: make([]api.LaOrder, 1), Lines: 1}, []int{0}, api.OK},
		{api.LaTask{Orders: make([]api.LaOrder, 4), Lines: 8}, []int{0, 1, 2, 3}, api.OK},
		{api.LaTask{Orders: make([]api.LaOrder, 5), Lines: 1}, nil, api.ErrLong},
		{api.LaTask{Orders: make([]api.LaOrder, 1), Data: 4, Lines: 8}, nil, api.ErrLong},
		{api.LaTask{Orders: make([]api.LaOrder, 24), Data: 16, Lines: 8}, nil, api.ErrLong},
	} {
		if at, e := layout.Best(c.x); !slices.Equal(at, c.at) || e != c.e {
			t.Errorf("Best of the task %d: %v, %d, not %v, %d", i, at, e, c.at, c.e)
		}
	}
}

// P6.4 and P6.7 against all layouts.
func TestBestPlain(t *testing.T) {
	r := rand.New(rand.NewSource(11))
	lines := map[int]int{}
	for range 45 {
		x := someTask(r, 3, 2)
		if len(x.Orders)+x.Data > 4 {
			continue
		}
		x.Lines = 1
		if len(x.Orders)+x.Data < 4 {
			x.Lines += r.Intn(2)
		}
		lines[x.Lines]++
		at := best(t, x)
		want, least := plainBest(x)
		if !slices.Equal(at, want) || cost(t, x, at) != least {
			t.Fatalf("Best of %v: %v, not %v, which takes %d", x, at, want, least)
		}
		if n := cost(t, x, good(t, x)); n < least {
			t.Fatalf("Good of %v takes %d, less than %d", x, n, least)
		}
	}
	if lines[1] < 10 || lines[2] < 10 {
		t.Errorf("only few tasks: %v", lines)
	}
}

// P6.4: two words at the same place, in two lines, where this takes less.
func TestBestInLines(t *testing.T) {
	x := api.LaTask{Orders: []api.LaOrder{{Op: api.OrTest, From: 0, To: 1, Next: 2}, {Op: api.OrHalt}, {Op: api.OrHalt}}, Data: 1, Lines: 2}
	x.Paths = []api.LaPath{{Orders: []int{0, 1}, Count: 5}, {Orders: []int{0, 2}, Count: 5}}
	for lines, want := range map[int][]int{1: {0, 2, 3, 1}, 2: {0, 2, 18, 1}, 8: {0, 2, 18, 1}} {
		x.Lines = lines
		if at := best(t, x); !slices.Equal(at, want) {
			t.Errorf("Best in %d lines: %v, not %v", lines, at, want)
		}
	}
}

// P6.7 and P6.12: no layout takes less than that of Best, and with a line more it takes no more.
func TestBestOfAny(t *testing.T) {
	r := rand.New(rand.NewSource(12))
	for range 300 {
		x := someTask(r, 2, 2)
		least := cost(t, x, best(t, x))
		for range 100 {
			if at := someLayout(r, x); cost(t, x, at) < least {
				t.Fatalf("%v: %v takes less than %d", x, at, least)
			}
		}
		if n := cost(t, x, good(t, x)); n < least {
			t.Fatalf("Good of %v takes %d, less than %d", x, n, least)
		}
		for x.Lines++; x.Lines <= 8; x.Lines++ {
			n := cost(t, x, best(t, x))
			if n > least {
				t.Fatalf("Best of %v takes %d, more than %d", x, n, least)
			}
			least = n
		}
	}
}

// P6.12: with a path less, and with Counts that are so many times greater.
func TestMorePaths(t *testing.T) {
	r := rand.New(rand.NewSource(13))
	for range 500 {
		x := someTask(r, 6, 4)
		at := someLayout(r, x)
		_, bound := bounded(t, x)
		n := cost(t, x, at)
		for i := range x.Paths {
			less := copied(x)
			less.Paths = slices.Delete(less.Paths, i, i+1)
			if _, b := bounded(t, less); b > bound || cost(t, less, at) > n {
				t.Fatalf("%v without the path %d: the bound is %d, not %d", x, i, b, bound)
			}
		}
		most, times := 1, 1+r.Intn(7)
		for _, path := range x.Paths {
			most = max(most, path.Count)
		}
		times = min(times, 1000/most)
		for i := range x.Paths {
			x.Paths[i].Count *= times
		}
		if _, b := bounded(t, x); b != times*bound || cost(t, x, at) != times*n {
			t.Fatalf("%v with %d times the Counts: the bound is %d, not %d", x, times, b, times*bound)
		}
	}
}
