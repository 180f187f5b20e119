package layout

import (
	"cmp"
	"slices"

	"quicksilver/api"
)

// Bound returns the proof of a task, and below which number no layout can go by it.
func Bound(t api.LaTask) (proof []api.LaPair, bound int, e api.Errno) {
	p, e := planOf(t)
	if e != api.OK {
		return nil, 0, e
	}
	for i, path := range p.Paths {
		pairs, value := greatest(slices.Collect(p.events(path)))
		for _, q := range pairs {
			q.Path = i
			proof = append(proof, q)
		}
		bound += value * path.Count
	}
	return proof, bound, api.OK
}

// origin is the greatest value of what is between two events, and the event with which its last pair begins: the second of the two events itself, if there is no pair that ends with it.
type origin struct{ value, from int }

// greatest returns the pairs of the events of a path that give the greatest value, in order, and this value.
func greatest(items []int) (pairs []api.LaPair, value int) {
	find := origins(items)
	var collect func(x, y, first int)
	collect = func(x, y, first int) {
		if x == y {
			return
		}
		from := find(x, y, first).from
		if from == y {
			collect(x, y-1, x)
			return
		}
		collect(x, from, x)
		pairs = append(pairs, api.LaPair{From: from, To: y})
		collect(from, y, from+1)
	}
	last := len(items) - 1
	collect(0, last, 0)
	return pairs, find(0, last, 0).value
}

// origins returns a function that finds the origin of what is between the events x and y of a path, if the pair that ends with y begins with the event first, or later.
// So its value with x as first is D of x and y; with the event after x it is what R of x and y is rounded up from.
func origins(items []int) func(x, y, first int) origin {
	known := map[[3]int]origin{}
	var find func(x, y, first int) origin
	find = func(x, y, first int) origin {
		if x == y {
			return origin{from: y}
		}
		key := [3]int{x, y, first}
		if o, ok := known[key]; ok {
			return o
		}
		o := origin{find(x, y-1, x).value + 1, y}
		for z := first; z < y; z++ {
			if items[z] != items[y] {
				continue
			}
			value := find(x, z, x).value + roundedUp(find(z, y, z+1).value)
			if value > o.value {
				o = origin{value, z}
			}
		}
		known[key] = o
		return o
	}
	return find
}

// roundedUp returns the least multiple of OrPlaces that is not below a number that is not below 0.
func roundedUp(n int) int { return (n + api.OrPlaces - 1) / api.OrPlaces * api.OrPlaces }

// inOrder returns pairs in new memory, each one before those that lie within it.
func inOrder(pairs []api.LaPair) []api.LaPair {
	return slices.SortedFunc(slices.Values(pairs), func(a, b api.LaPair) int {
		return cmp.Or(cmp.Compare(a.Path, b.Path), cmp.Compare(a.From, b.From), cmp.Compare(b.To, a.To))
	})
}

// Accept returns the bound of a proof.
func Accept(t api.LaTask, proof []api.LaPair) (int, api.Errno) {
	p, e := planOf(t)
	if e != api.OK {
		return 0, e
	}
	paths := make([][]int, len(p.Paths))
	for i, path := range p.Paths {
		paths[i] = slices.Collect(p.events(path))
	}
	if e := proofError(paths, proof); e != api.OK {
		return 0, e
	}
	bound, rest := 0, inOrder(proof)
	for i, items := range paths {
		many := countWhile(rest, func(q api.LaPair) bool { return q.Path == i })
		bound += between(0, len(items)-1, rest[:many]) * p.Paths[i].Count
		rest = rest[many:]
	}
	return bound, api.OK
}

// proofError returns the error of a proof, by the items of the events of all paths.
func proofError(paths [][]int, proof []api.LaPair) api.Errno {
	if len(proof) > api.MaxLaPairs {
		return api.ErrLong
	}
	for _, q := range proof {
		if e := pairError(paths, q); e != api.OK {
			return e
		}
	}
	for i, q := range proof {
		if slices.ContainsFunc(proof[:i], func(r api.LaPair) bool { return q == r || crosses(q, r) || crosses(r, q) }) {
			return api.LaErrCross
		}
	}
	return api.OK
}

// pairError returns the error of a pair, by the items of the events of all paths.
func pairError(paths [][]int, q api.LaPair) api.Errno {
	if !within(0, len(paths)-1, q.Path) {
		return api.ErrNone
	}
	items := paths[q.Path]
	switch {
	case !within(0, len(items)-1, q.From) || !within(0, len(items)-1, q.To):
		return api.ErrNone
	case q.From >= q.To || items[q.From] != items[q.To]:
		return api.ErrArg
	}
	return api.OK
}

// crosses reports whether a pair begins first, and ends within the other one.
func crosses(q, r api.LaPair) bool {
	return q.Path == r.Path && q.From < r.From && r.From < q.To && q.To < r.To
}

// between returns the value of what is between two events of a path, with all pairs that count there, in order.
func between(from, to int, pairs []api.LaPair) int {
	value := to - from
	for len(pairs) > 0 {
		outer := pairs[0]
		many := countWhile(pairs, func(q api.LaPair) bool { return q.From < outer.To })
		inside := between(outer.From, outer.To, pairs[1:many])
		value += roundedUp(inside) - (outer.To - outer.From)
		pairs = pairs[many:]
	}
	return value
}

// countWhile returns how many pairs there are up to the first one that is not as asked for.
func countWhile(pairs []api.LaPair, asked func(q api.LaPair) bool) int {
	for i, q := range pairs {
		if !asked(q) {
			return i
		}
	}
	return len(pairs)
}
