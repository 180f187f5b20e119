package layout_test

import (
	"cmp"
	"slices"

	"quicksilver/api"
)

// Here the definitions of the chapter are read word by word, without any thought of how long this takes.

// plainEvent is that an item comes by, once the machine has been busy for some minor cycles.
type plainEvent struct{ item, busy int }

// plainEvents returns the events of a path.
func plainEvents(x api.LaTask, path api.LaPath) []plainEvent {
	var events []plainEvent
	n := len(x.Orders)
	for _, i := range path.Orders[:len(path.Orders)-1] {
		o := x.Orders[i]
		events = append(events, plainEvent{item: i})
		switch o.Op {
		case 1, 2, 3:
			events = append(events, plainEvent{item: n + o.From}, plainEvent{item: n + o.To})
		case 4:
			events = append(events, plainEvent{item: n + o.From}, plainEvent{item: n + o.To}, plainEvent{n + o.To, 12})
		case 5, 7:
			events = append(events, plainEvent{item: n + o.From})
		case 6:
			events = append(events, plainEvent{item: n + o.To})
		}
	}
	return append(events, plainEvent{item: path.Orders[len(path.Orders)-1]})
}

// plainTimes returns the times of the events of a path, waiting minor cycle by minor cycle.
func plainTimes(events []plainEvent, at []int) []int {
	times := []int{at[events[0].item] % 16}
	for _, e := range events[1:] {
		time := times[len(times)-1] + e.busy + 1
		for time%16 != at[e.item]%16 {
			time++
		}
		times = append(times, time)
	}
	return times
}

// plainCost returns how many minor cycles a layout takes.
func plainCost(x api.LaTask, at []int) int {
	total := 0
	for _, path := range x.Paths {
		times := plainTimes(plainEvents(x, path), at)
		total += (times[len(times)-1] - times[0]) * path.Count
	}
	return total
}

// plainUp returns the least multiple of 16 that is not below a number.
func plainUp(n int) int {
	for n%16 != 0 {
		n++
	}
	return n
}

// plainWithin reports whether a pair lies between two events.
func plainWithin(q api.LaPair, path, from, to int) bool {
	return q.Path == path && from <= q.From && q.To <= to
}

// plainBetween returns the value of what is between two events.
func plainBetween(proof []api.LaPair, path, from, to int) int {
	var there []api.LaPair
	for _, q := range proof {
		if plainWithin(q, path, from, to) && (q.From != from || q.To != to) {
			there = append(there, q)
		}
	}
	value := 0
	for _, q := range there {
		inOther := slices.ContainsFunc(there, func(r api.LaPair) bool { return r != q && plainWithin(q, path, r.From, r.To) })
		if !inOther {
			value += plainUp(plainBetween(proof, path, q.From, q.To))
		}
	}
	for i := from; i < to; i++ {
		if !slices.ContainsFunc(there, func(q api.LaPair) bool { return q.From <= i && i+1 <= q.To }) {
			value++
		}
	}
	return value
}

// plainBound returns the bound of a proof.
func plainBound(x api.LaTask, proof []api.LaPair) int {
	bound := 0
	for i, path := range x.Paths {
		last := len(plainEvents(x, path)) - 1
		value := plainBetween(proof, i, 0, last)
		if slices.Contains(proof, api.LaPair{Path: i, From: 0, To: last}) {
			value = plainUp(value)
		}
		bound += value * path.Count
	}
	return bound
}

// plainError returns the error of a proof.
func plainError(x api.LaTask, proof []api.LaPair) api.Errno {
	if len(proof) > 1500 {
		return api.ErrLong
	}
	for _, q := range proof {
		if q.Path < 0 || q.Path >= len(x.Paths) {
			return api.ErrNone
		}
		events := plainEvents(x, x.Paths[q.Path])
		if q.From < 0 || q.From >= len(events) || q.To < 0 || q.To >= len(events) {
			return api.ErrNone
		}
		if q.From >= q.To || events[q.From].item != events[q.To].item {
			return api.ErrArg
		}
	}
	for i, q := range proof {
		for _, r := range proof[i+1:] {
			apart := q.Path != r.Path || q.To <= r.From || r.To <= q.From
			if q == r || !apart && !plainWithin(q, r.Path, r.From, r.To) && !plainWithin(r, q.Path, q.From, q.To) {
				return api.LaErrCross
			}
		}
	}
	return api.OK
}

// plainTables are D and R of the events of a path (0: not known yet; none of them is 0 but D of an event and itself), and their items.
type plainTables struct {
	items []int
	d, r  [100][100]int
}

func tablesOf(events []plainEvent) *plainTables {
	v := &plainTables{}
	for _, e := range events {
		v.items = append(v.items, e.item)
	}
	return v
}

// D is D of x and y.
func (v *plainTables) D(x, y int) int {
	if x == y {
		return 0
	}
	if v.d[x][y] == 0 {
		value := v.D(x, y-1) + 1
		for z := x; z < y; z++ {
			if v.items[z] == v.items[y] {
				value = max(value, v.D(x, z)+v.R(z, y))
			}
		}
		v.d[x][y] = value
	}
	return v.d[x][y]
}

// inside is what R of z and y is the least multiple of OrPlaces for.
func (v *plainTables) inside(z, y int) int {
	value := v.D(z, y-1) + 1
	for w := z + 1; w < y; w++ {
		if v.items[w] == v.items[y] {
			value = max(value, v.D(z, w)+v.R(w, y))
		}
	}
	return value
}

// R is R of z and y.
func (v *plainTables) R(z, y int) int {
	if v.r[z][y] == 0 {
		v.r[z][y] = plainUp(v.inside(z, y))
	}
	return v.r[z][y]
}

// pairs returns the pairs of x and y.
func (v *plainTables) pairs(x, y int) []api.LaPair {
	if x == y {
		return nil
	}
	if v.D(x, y) == v.D(x, y-1)+1 {
		return v.pairs(x, y-1)
	}
	z := x
	for v.items[z] != v.items[y] || v.D(x, z)+v.R(z, y) != v.D(x, y) {
		z++
	}
	return slices.Concat(v.pairs(x, z), []api.LaPair{{From: z, To: y}}, v.within(z, y))
}

// within returns the pairs within z and y.
func (v *plainTables) within(z, y int) []api.LaPair {
	if v.inside(z, y) == v.D(z, y-1)+1 {
		return v.pairs(z, y-1)
	}
	w := z + 1
	for v.items[w] != v.items[y] || v.D(z, w)+v.R(w, y) != v.inside(z, y) {
		w++
	}
	return slices.Concat(v.pairs(z, w), []api.LaPair{{From: w, To: y}}, v.within(w, y))
}

// plainProof returns the proof of a task, and its bound.
func plainProof(x api.LaTask) (proof []api.LaPair, bound int) {
	for i, path := range x.Paths {
		v := tablesOf(plainEvents(x, path))
		last := len(v.items) - 1
		for _, q := range v.pairs(0, last) {
			proof = append(proof, api.LaPair{Path: i, From: q.From, To: q.To})
		}
		bound += v.D(0, last) * path.Count
	}
	slices.SortFunc(proof, func(a, b api.LaPair) int {
		return cmp.Or(a.Path-b.Path, a.From-b.From, b.To-a.To)
	})
	return proof, bound
}

// plainGood returns the good layout.
func plainGood(x api.LaTask) []int {
	at := slices.Repeat([]int{-1}, len(x.Orders)+x.Data)
	looked := make([]bool, len(x.Paths))
	for range x.Paths {
		most := -1
		for i, path := range x.Paths {
			if !looked[i] && (most < 0 || path.Count > x.Paths[most].Count) {
				most = i
			}
		}
		looked[most] = true
		from := 0
		for _, e := range plainEvents(x, x.Paths[most]) {
			if at[e.item] < 0 {
				at[e.item] = plainFree(x, at, from)
			}
			from = (at[e.item] + 1) % 16
		}
	}
	for i := range at {
		for address := 0; at[i] < 0; address++ {
			if !slices.Contains(at, address) {
				at[i] = address
			}
		}
	}
	for plainExchange(x, at) {
	}
	return at
}

// plainFree returns the least free address of the first place, from one on, that has one.
func plainFree(x api.LaTask, at []int, from int) int {
	for place := from; ; place++ {
		for address := place % 16; address < 16*x.Lines; address += 16 {
			if !slices.Contains(at, address) {
				return address
			}
		}
	}
}

// plainExchange exchanges the two items with which the layout takes the least, if it takes less then.
func plainExchange(x api.LaTask, at []int) bool {
	least, a, b := plainCost(x, at), 0, 0
	for i := range at {
		for j := i + 1; j < len(at); j++ {
			at[i], at[j] = at[j], at[i]
			if n := plainCost(x, at); n < least {
				least, a, b = n, i, j
			}
			at[i], at[j] = at[j], at[i]
		}
	}
	at[a], at[b] = at[b], at[a]
	return a != b
}

// plainLayouts calls a function with each layout of a task, in order.
func plainLayouts(x api.LaTask, each func(at []int)) {
	var longer func(at []int)
	longer = func(at []int) {
		if len(at) == len(x.Orders)+x.Data {
			each(at)
			return
		}
		for address := range 16 * x.Lines {
			if !slices.Contains(at, address) {
				longer(append(slices.Clip(at), address))
			}
		}
	}
	longer(nil)
}

// plainBest returns the first one of the layouts that take the least.
func plainBest(x api.LaTask) (best []int, least int) {
	plainLayouts(x, func(at []int) {
		if n := plainCost(x, at); best == nil || n < least {
			best, least = slices.Clone(at), n
		}
	})
	return best, least
}

// plainLay returns the words of a program.
func plainLay(x api.LaTask, at, words []int) []int {
	store := make([]int, 128)
	data := at[len(x.Orders):]
	for i, o := range x.Orders {
		from, to, next := 0, 0, 0
		switch o.Op {
		case 1, 2, 3, 4:
			from, to, next = data[o.From], data[o.To], at[o.Next]
		case 5:
			from, to, next = data[o.From], at[o.To], at[o.Next]
		case 6:
			to, next = data[o.To], at[o.Next]
		case 7:
			from, next = data[o.From], at[o.Next]
		}
		store[at[i]] = o.Op*2097152 + from*16384 + to*128 + next
	}
	for i, word := range words {
		store[data[i]] = word
	}
	return store
}
