package layout

import (
	"iter"
	"slices"

	"quicksilver/api"
)

// plan is a task, and the steps of its paths.
type plan struct {
	api.LaTask
	steps []step
}

// step is two items of which one comes by right after the other one, and how often in all paths together.
type step struct{ from, to, count int }

// planOf returns the plan of a task, or its error.
func planOf(t api.LaTask) (plan, api.Errno) {
	if _, _, e := Check(t); e != api.OK {
		return plan{}, e
	}
	p := plan{LaTask: t}
	// Most steps occur again and again: a layout is looked at faster if each of them is there once.
	at := map[[2]int]int{}
	for _, path := range p.Paths {
		before := -1
		for item := range p.events(path) {
			if before >= 0 {
				p.addStep(at, before, item, path.Count)
			}
			before = item
		}
	}
	return p, api.OK
}

// addStep adds a step that occurs so often; at has the indices of those that are there.
func (p *plan) addStep(at map[[2]int]int, from, to, count int) {
	i, ok := at[[2]int{from, to}]
	if !ok {
		i = len(p.steps)
		at[[2]int{from, to}] = i
		p.steps = append(p.steps, step{from: from, to: to})
	}
	p.steps[i].count += count
}

// items returns how many items there are: orders, and data behind them.
func (p plan) items() int { return len(p.Orders) + p.Data }

// addresses returns how many addresses there are.
func (p plan) addresses() int { return p.Lines * api.OrPlaces }

// takes returns how many minor cycles a layout takes.
func (p plan) takes(layout []int) int {
	total := 0
	for _, s := range p.steps {
		total += s.count * wait(layout[s.from], layout[s.to])
	}
	return total
}

// wait returns how many minor cycles after the word at an address another one comes by.
// This holds for the second word of a product, too: the multiplier is ready before the word comes by again.
func wait(from, to int) int {
	return place(place(to)-place(from)-1+api.OrPlaces) + 1
}

// place returns the place of an address that is not below 0.
func place(address int) int { return address % api.OrPlaces }

// events yields the items of the events of a path.
func (p plan) events(path api.LaPath) iter.Seq[int] {
	return func(yield func(int) bool) {
		last := len(path.Orders) - 1
		for _, i := range path.Orders[:last] {
			if !yield(i) {
				return
			}
			for u := range uses(p.Orders[i].Op) {
				if u.datum && !yield(p.item(u, p.Orders[i])) {
					return
				}
			}
		}
		yield(path.Orders[last])
	}
}

// leadsTo returns the orders to which an order leads.
func (p plan) leadsTo(i int) []int {
	var orders []int
	for u := range uses(p.Orders[i].Op) {
		if !u.datum {
			orders = append(orders, p.item(u, p.Orders[i]))
		}
	}
	return orders
}

// item returns the item that an order uses.
func (p plan) item(u use, o api.LaOrder) int {
	first, _ := p.numbered(u)
	return first + *u.index(&o)
}

// numbered returns the first one of the items of which some use names an index, and how many they are.
func (p plan) numbered(u use) (first, many int) {
	if u.datum {
		return len(p.Orders), p.Data
	}
	return 0, len(p.Orders)
}

// use is a word that comes by for an order, if the order is of an Op with it: where its index is, and whether it is that of a datum, or of an order.
type use struct {
	with  func(op int) bool
	index func(o *api.LaOrder) *int
	datum bool
}

// uses yields what an Op uses, one after the other; an item comes by as often as it is used.
func uses(op int) iter.Seq[use] {
	from := func(o *api.LaOrder) *int { return &o.From }
	to := func(o *api.LaOrder) *int { return &o.To }
	next := func(o *api.LaOrder) *int { return &o.Next }
	all := [...]use{
		{with: oneOf(api.OrMove, api.OrAdd, api.OrSub, api.OrMul, api.OrTest, api.OrPrint), index: from, datum: true},
		{with: oneOf(api.OrMove, api.OrAdd, api.OrSub, api.OrMul, api.OrRead), index: to, datum: true},
		{with: oneOf(api.OrMul), index: to, datum: true},
		{with: oneOf(api.OrTest), index: to},
		{with: func(op int) bool { return op != api.OrHalt }, index: next},
	}
	return func(yield func(use) bool) {
		for _, u := range all {
			if u.with(op) && !yield(u) {
				return
			}
		}
	}
}

// oneOf returns a function that reports whether an Op is one of these.
func oneOf(ops ...int) func(op int) bool {
	return func(op int) bool { return slices.Contains(ops, op) }
}
