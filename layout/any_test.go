package layout_test

import (
	"math"
	"math/rand"
	"slices"
	"testing"

	"quicksilver/api"
	"quicksilver/layout"
)

// anyInt returns a number that is as stated now and then, and far beyond it otherwise.
func anyInt(r *rand.Rand) int {
	switch r.Intn(4) {
	case 0:
		return extremes()[r.Intn(len(extremes()))]
	case 1:
		return int(r.Uint64())
	}
	return r.Intn(20) - 2
}

// anyInts returns numbers, of which some are not as stated.
func anyInts(r *rand.Rand, many int) []int {
	list := r.Perm(many)
	if r.Intn(2) == 0 && many > 0 {
		list[r.Intn(many)] = anyInt(r)
	}
	return list
}

// anyTask returns a task of which some numbers are not as stated.
func anyTask(r *rand.Rand) api.LaTask {
	x := someTask(r, 6, 4)
	for range r.Intn(3) {
		switch o := &x.Orders[r.Intn(len(x.Orders))]; r.Intn(10) {
		case 0:
			x.Data = anyInt(r)
		case 1:
			x.Lines = anyInt(r)
		case 2:
			o.Op = anyInt(r)
		case 3:
			o.From = anyInt(r)
		case 4:
			o.To = anyInt(r)
		case 5:
			o.Next = anyInt(r)
		case 6:
			x.Paths = append(x.Paths, api.LaPath{Orders: anyInts(r, r.Intn(26)), Count: anyInt(r)})
		case 7:
			x.Paths = append(x.Paths, api.LaPath{Orders: []int{anyInt(r), anyInt(r)}, Count: 1})
		case 8:
			x.Orders = append(x.Orders, make([]api.LaOrder, r.Intn(30))...)
		default:
			x.Paths = append(x.Paths, make([]api.LaPath, r.Intn(9))...)
		}
	}
	return x
}

// P6.13 and P1: whatever the arguments, the calls come back; with an error all else is zero.
func TestAnyArguments(t *testing.T) {
	r := rand.New(rand.NewSource(14))
	wrong := 0
	for range 3000 {
		x := anyTask(r)
		part, at, f := layout.Check(x)
		if (part == 0) != (f == api.OK) || part < 2 && at != 0 {
			t.Fatalf("Check of %v: %d, %d, %d", x, part, at, f)
		}
		proof, bound, e := layout.Bound(x)
		if e != f || e != api.OK && (len(proof) != 0 || bound != 0) {
			t.Fatalf("Bound of %v: %v, %d, %d", x, proof, bound, e)
		}
		for range r.Intn(3) {
			proof = append(proof, api.LaPair{Path: anyInt(r), From: anyInt(r), To: anyInt(r)})
		}
		n, e := layout.Accept(x, proof)
		m, g := layout.Cost(x, anyInts(r, r.Intn(9)))
		if e != api.OK && n != 0 || g != api.OK && m != 0 {
			t.Fatalf("Accept and Cost of %v: %d, %d; %d, %d", x, n, e, m, g)
		}
		a, e := layout.Good(x)
		b, g := layout.Best(x)
		c, h := layout.Lay(x, a, anyInts(r, max(0, min(x.Data, 20))))
		if e != f || (e != api.OK) != (len(a) == 0) || (g != api.OK) != (len(b) == 0) || (h != api.OK) != (len(c) == 0) {
			t.Fatalf("Good, Best and Lay of %v: %v, %d; %v, %d; %v, %d", x, a, e, b, g, c, h)
		}
		if f != api.OK {
			wrong++
		}
	}
	if wrong < 500 || wrong > 2500 {
		t.Errorf("%d of 3000 tasks have an error", wrong)
	}
}

// roomy returns a list with room behind its end, and all of it.
func roomy[T any](list []T, rest T) (part, whole []T) {
	whole = append(slices.Clone(list), rest, rest, rest)
	return whole[:len(list)], whole
}

// spoil writes over a result, up to its capacity.
func spoil(lists ...[]int) {
	for _, list := range lists {
		list = list[:cap(list)]
		for i := range list {
			list[i] = math.MinInt
		}
	}
}

// P6.13: arguments stay as they are, also behind their ends; and calls come to the same again, whatever becomes of their results.
func TestMemory(t *testing.T) {
	r := rand.New(rand.NewSource(15))
	for range 300 {
		x := someTask(r, 2, 2)
		before := copied(x)
		orders, paths := []api.LaOrder(nil), []api.LaPath(nil)
		x.Orders, orders = roomy(x.Orders, api.LaOrder{Op: 9})
		x.Paths, paths = roomy(x.Paths, api.LaPath{Count: 9})
		at, wholeAt := roomy(someLayout(r, x), 99)
		words, wholeWords := roomy(someWords(r, x), 99)
		first, _ := bounded(t, x)
		slices.Reverse(first)
		proof, wholeProof := roomy(first, api.LaPair{Path: 9})
		copies := [][]int{slices.Clone(wholeAt), slices.Clone(wholeWords)}
		pairs := slices.Clone(wholeProof)
		for range 2 {
			layout.Check(x)
			want, n := plainProof(before)
			again, m := bounded(t, x)
			if !slices.Equal(again, want) || m != n || accepted(t, x, proof) != n || cost(t, x, at) != plainCost(before, copies[0][:len(at)]) {
				t.Fatalf("Bound of %v: %v, %d, not %v, %d", x, again, m, want, n)
			}
			again = again[:cap(again)]
			clear(again)
			a, b, c := good(t, x), best(t, x), lay(t, x, at, words)
			if !slices.Equal(a, plainGood(before)) || !slices.Equal(c, plainLay(before, at, words)) {
				t.Fatalf("Good and Lay of %v: %v and %v", x, a, c)
			}
			spoil(a, b, c)
		}
		if !same(x, before) || orders[len(x.Orders)].Op != 9 || paths[len(x.Paths)].Count != 9 {
			t.Fatalf("the task was changed: %v, not %v", x, before)
		}
		if !slices.Equal(wholeAt, copies[0]) || !slices.Equal(wholeWords, copies[1]) || !slices.Equal(wholeProof, pairs) {
			t.Fatalf("arguments were changed: %v, %v, %v", wholeAt, wholeWords, wholeProof)
		}
	}
}
