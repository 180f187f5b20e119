package layout_test

import (
	"math"
	"math/rand"
	"slices"
	"testing"

	"quicksilver/api"
	"quicksilver/layout"
)

// pair is a pair of the first path.
func pair(from, to int) api.LaPair { return api.LaPair{From: from, To: to} }

// P6.3, with the chapter's examples.
func TestBound(t *testing.T) {
	twice := taskT()
	twice.Paths = append(twice.Paths, api.LaPath{Orders: []int{1}, Count: 9}, api.LaPath{Orders: []int{1, 1}, Count: 3})
	none := taskT()
	none.Paths = nil
	for _, c := range []struct {
		x     api.LaTask
		proof []api.LaPair
		n     int
	}{
		{taskT(), []api.LaPair{pair(0, 5), pair(2, 4)}, 320},
		{taskU(), []api.LaPair{pair(0, 6), pair(2, 5), pair(2, 3), pair(3, 5)}, 480},
		{twice, []api.LaPair{pair(0, 5), pair(2, 4), {Path: 2, From: 0, To: 2}}, 368},
		{looped(api.OrPrint, 0), nil, 0},
		{looped(api.OrPrint, 1), []api.LaPair{pair(0, 2)}, 16},
		{none, nil, 0},
	} {
		if proof, n, e := layout.Bound(c.x); !slices.Equal(proof, c.proof) || n != c.n || e != api.OK {
			t.Errorf("Bound of %v: %v, %d, %d, not %v, %d", c.x, proof, n, e, c.proof, c.n)
		}
	}
}

// P6.3: what comes to a multiple of OrPlaces needs no pair around it. Here an order comes by again after 16 steps; then after 17, of which one is a pair; then after 17 without one.
func TestBoundWithoutPair(t *testing.T) {
	x := api.LaTask{Data: 8, Lines: 2}
	for i := range 8 {
		x.Orders = append(x.Orders, api.LaOrder{Op: api.OrPrint, From: i, Next: (i + 1) % 8})
	}
	x.Paths = []api.LaPath{{Orders: []int{0, 1, 2, 3, 4, 5, 6, 7, 0}, Count: 1}}
	if proof, n := bounded(t, x); len(proof) != 0 || n != 16 {
		t.Errorf("Bound of 16 steps: %v, %d", proof, n)
	}
	x.Orders[7].Op, x.Orders[7].To = api.OrMove, 7
	if proof, n := bounded(t, x); !slices.Equal(proof, []api.LaPair{pair(15, 16)}) || n != 32 {
		t.Errorf("Bound of 17 steps: %v, %d", proof, n)
	}
	x.Data, x.Orders[7].To = 9, 8
	if proof, n := bounded(t, x); !slices.Equal(proof, []api.LaPair{pair(0, 17)}) || n != 32 {
		t.Errorf("Bound of 17 steps without a pair: %v, %d", proof, n)
	}
}

// P6.3 against the definition, and P6.6: Accept accepts the proof, with its bound.
func TestBoundPlain(t *testing.T) {
	r := rand.New(rand.NewSource(6))
	for i := range 600 {
		x := someTask(r, 1+i%6, 1+i%4)
		if i%50 == 0 {
			x.Paths = slices.Repeat([]api.LaPath{somePath(r, x)}, 8)
		}
		proof, n := bounded(t, x)
		want, bound := plainProof(x)
		if !slices.Equal(proof, want) || n != bound {
			t.Fatalf("Bound of %v: %v, %d, not %v, %d", x, proof, n, want, bound)
		}
		if m := accepted(t, x, proof); m != n {
			t.Fatalf("Accept of %v, %v: %d, not %d", x, proof, m, n)
		}
	}
}

// P6.3 and P6.6: the greatest proofs are accepted, too.
func TestBoundLong(t *testing.T) {
	x := looped(api.OrMul, 23)
	x.Paths = slices.Repeat(x.Paths, 8)
	proof, n := bounded(t, x)
	if m := accepted(t, x, proof); m != n || n != 8*23*48 || n != cost(t, x, []int{0, 1}) {
		t.Errorf("Bound of %d pairs: %d; Accept: %d", len(proof), n, m)
	}
}

// P6.3, with the chapter's examples.
func TestAccept(t *testing.T) {
	for _, c := range []struct {
		x     api.LaTask
		proof []api.LaPair
		n     int
		e     api.Errno
	}{
		{taskT(), nil, 50, api.OK},
		{taskT(), []api.LaPair{pair(2, 4)}, 190, api.OK},
		{taskT(), []api.LaPair{pair(0, 5)}, 160, api.OK},
		{taskT(), []api.LaPair{pair(2, 4), pair(0, 5)}, 320, api.OK},
		{taskT(), []api.LaPair{pair(0, 4)}, 0, api.ErrArg},
		// Both pairs begin, or end, with the same event; or one ends where the other one begins.
		{taskU(), []api.LaPair{pair(2, 3), pair(2, 5)}, 350, api.OK},
		{taskU(), []api.LaPair{pair(2, 5), pair(3, 5)}, 350, api.OK},
		{taskU(), []api.LaPair{pair(3, 5), pair(2, 3)}, 350, api.OK},
		{taskU(), []api.LaPair{pair(2, 3), pair(3, 5), pair(2, 3)}, 0, api.LaErrCross},
		{taskT(), []api.LaPair{pair(0, 5), pair(2, 4), pair(0, 5)}, 0, api.LaErrCross},
		// Errors of single pairs, of which the first one counts.
		{taskT(), []api.LaPair{{Path: 1, From: 5, To: 0}}, 0, api.ErrNone},
		{taskT(), []api.LaPair{{Path: -1, From: 0, To: 5}}, 0, api.ErrNone},
		{taskT(), []api.LaPair{{Path: math.MaxInt, From: 0, To: 5}}, 0, api.ErrNone},
		{taskT(), []api.LaPair{pair(0, 6)}, 0, api.ErrNone},
		{taskT(), []api.LaPair{pair(6, 0)}, 0, api.ErrNone},
		{taskT(), []api.LaPair{pair(-1, 5)}, 0, api.ErrNone},
		{taskT(), []api.LaPair{pair(5, -1)}, 0, api.ErrNone},
		{taskT(), []api.LaPair{pair(math.MinInt, math.MaxInt)}, 0, api.ErrNone},
		{taskT(), []api.LaPair{pair(5, 0)}, 0, api.ErrArg},
		{taskT(), []api.LaPair{pair(3, 3)}, 0, api.ErrArg},
		{taskT(), []api.LaPair{pair(1, 2)}, 0, api.ErrArg},
		{taskT(), []api.LaPair{pair(0, 5), pair(0, 5), pair(0, 6)}, 0, api.ErrNone},
		{taskT(), []api.LaPair{pair(0, 5), pair(0, 4), pair(0, 6)}, 0, api.ErrArg},
		{taskT(), slices.Repeat([]api.LaPair{pair(0, 6)}, 1501), 0, api.ErrLong},
		{taskT(), slices.Repeat([]api.LaPair{pair(0, 6)}, 1500), 0, api.ErrNone},
		{taskT(), slices.Repeat([]api.LaPair{pair(0, 5)}, 1500), 0, api.LaErrCross},
	} {
		if n, e := layout.Accept(c.x, c.proof); n != c.n || e != c.e {
			t.Errorf("Accept of %v, %.50v: %d, %d, not %d, %d", c.x, c.proof, n, e, c.n, c.e)
		}
	}
}

// P6.3: pairs that cross each other, in whatever order, but not those of two paths.
func TestCross(t *testing.T) {
	x := api.LaTask{Orders: []api.LaOrder{{Op: api.OrTest, From: 0, To: 1, Next: 1}, {Op: api.OrTest, From: 1}}, Data: 2, Lines: 1}
	x.Paths = slices.Repeat([]api.LaPath{{Orders: []int{0, 1, 0, 1, 0}, Count: 1}}, 2)
	for _, c := range []struct {
		a, b api.LaPair
		e    api.Errno
	}{
		{pair(1, 5), pair(3, 7), api.LaErrCross},
		{pair(0, 4), pair(3, 7), api.LaErrCross},
		{pair(0, 4), pair(1, 5), api.LaErrCross},
		{pair(0, 4), pair(4, 8), api.OK},
		{pair(0, 8), pair(4, 8), api.OK},
		{pair(0, 8), pair(0, 4), api.OK},
		{pair(0, 8), pair(3, 7), api.OK},
		{pair(0, 4), api.LaPair{Path: 1, From: 3, To: 7}, api.OK},
		{pair(0, 4), api.LaPair{Path: 1, From: 0, To: 4}, api.OK},
	} {
		for _, proof := range [][]api.LaPair{{c.a, c.b}, {c.b, c.a}} {
			if _, e := layout.Accept(x, proof); e != c.e || e != plainError(x, proof) {
				t.Errorf("Accept of %v: %d, not %d", proof, e, c.e)
			}
		}
	}
}

// somePair returns a pair of a task with a path, which has an error now and then.
func somePair(r *rand.Rand, x api.LaTask) api.LaPair {
	q := api.LaPair{Path: r.Intn(len(x.Paths))}
	events := plainEvents(x, x.Paths[q.Path])
	q.From, q.To = r.Intn(len(events)), r.Intn(len(events))
	if q.From > q.To {
		q.From, q.To = q.To, q.From
	}
	for range 30 {
		if q.From < q.To && events[q.From] == events[q.To] {
			break
		}
		q.From, q.To = r.Intn(len(events)), r.Intn(len(events))
	}
	if r.Intn(60) == 0 {
		q.Path = r.Intn(6) - 1
	}
	return q
}

// P6.3 against the definition, for proofs with and without errors.
func TestAcceptPlain(t *testing.T) {
	r := rand.New(rand.NewSource(7))
	seen := map[api.Errno]int{}
	for range 20000 {
		x := someTask(r, 5, 3)
		if len(x.Paths) == 0 {
			continue
		}
		var proof []api.LaPair
		for range r.Intn(6) {
			proof = append(proof, somePair(r, x))
		}
		n, e := layout.Accept(x, proof)
		bound, want := 0, plainError(x, proof)
		if want == api.OK {
			bound = plainBound(x, proof)
		}
		if n != bound || e != want {
			t.Fatalf("Accept of %v, %v: %d, %d, not %d, %d", x, proof, n, e, bound, want)
		}
		seen[e]++
	}
	for _, e := range []api.Errno{api.OK, api.ErrNone, api.ErrArg, api.LaErrCross} {
		if seen[e] < 100 {
			t.Errorf("only %d proofs with the error %d", seen[e], e)
		}
	}
}

// someProof returns a proof of a task, of as many pairs of some as can be accepted together.
func someProof(r *rand.Rand, x api.LaTask) []api.LaPair {
	var proof []api.LaPair
	for range r.Intn(40) {
		longer := append(slices.Clip(proof), somePair(r, x))
		if _, e := layout.Accept(x, longer); e == api.OK {
			proof = longer
		}
	}
	return proof
}

// P6.6: no layout takes less than the bound of any proof, and none is above that of the proof of the task.
func TestNoLayoutTakesLess(t *testing.T) {
	r := rand.New(rand.NewSource(8))
	for range 150 {
		x := someTask(r, 4, 3)
		if len(x.Paths) == 0 {
			continue
		}
		_, most := bounded(t, x)
		for range 10 {
			proof := someProof(r, x)
			n := accepted(t, x, proof)
			if n > most {
				t.Fatalf("Accept of %v, %v: %d, above %d", x, proof, n, most)
			}
		}
		for range 30 {
			if at := someLayout(r, x); cost(t, x, at) < most {
				t.Fatalf("Cost of %v, %v: below %d", x, at, most)
			}
		}
		if n := cost(t, x, good(t, x)); n < most {
			t.Fatalf("Good of %v takes %d, below %d", x, n, most)
		}
	}
}

// P6.6: the layouts of few items, all of them.
func TestBoundOfFew(t *testing.T) {
	r := rand.New(rand.NewSource(9))
	for range 300 {
		x := someTask(r, 2, 2)
		_, bound := bounded(t, x)
		if n := cost(t, x, best(t, x)); n < bound {
			t.Fatalf("Best of %v takes %d, below %d", x, n, bound)
		}
	}
}
