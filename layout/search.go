package layout

import (
	"slices"

	"quicksilver/api"
)

// notLaid is the address of an item that has none yet.
const notLaid = -1

// Good returns the good layout.
func Good(t api.LaTask) ([]int, api.Errno) {
	p, e := planOf(t)
	if e != api.OK {
		return nil, e
	}
	layout := p.laidByPaths()
	for i := range layout {
		if layout[i] == notLaid {
			layout[i] = leastFree(layout)
		}
	}
	p.improve(layout)
	return layout, api.OK
}

// laidByPaths returns a layout in which the items of paths are laid, those of the paths with the greatest Count first.
func (p plan) laidByPaths() []int {
	layout := slices.Repeat([]int{notLaid}, p.items())
	paths := slices.Clone(p.Paths)
	slices.SortStableFunc(paths, func(a, b api.LaPath) int { return b.Count - a.Count })
	for _, path := range paths {
		first := 0
		for item := range p.events(path) {
			if layout[item] == notLaid {
				layout[item] = p.freeFrom(layout, first)
			}
			first = place(layout[item] + 1)
		}
	}
	return layout
}

// freeFrom returns the least free address of the first place, from one on, that has one.
func (p plan) freeFrom(layout []int, first int) int {
	address := 0
search:
	for i := range api.OrPlaces {
		for line := range p.Lines {
			address = line*api.OrPlaces + place(first+i)
			if isFree(layout, address) {
				break search
			}
		}
	}
	return address
}

// leastFree returns the least free address.
func leastFree(layout []int) int {
	address := 0
	for !isFree(layout, address) {
		address++
	}
	return address
}

func isFree(layout []int, address int) bool { return !slices.Contains(layout, address) }

// improve exchanges items of a layout as long as it takes less then.
func (p plan) improve(layout []int) {
	all := p.exchanges()
	takes := func(x exchange) int {
		x.in(layout)
		n := p.takes(layout)
		x.in(layout)
		return n
	}
	for {
		best := least(takes, all...)
		if best == all[0] {
			return
		}
		best.in(layout)
	}
}

// exchange is two items whose addresses are exchanged.
type exchange struct{ a, b int }

// in exchanges the items in a layout; once more, and it is as before.
func (x exchange) in(layout []int) { layout[x.a], layout[x.b] = layout[x.b], layout[x.a] }

// exchanges returns all exchanges, in order; the first one, of an item with itself, leaves a layout as it is, so that no other one is better unless it takes less.
func (p plan) exchanges() []exchange {
	all := []exchange{{0, 0}}
	for a := range p.items() {
		for b := a + 1; b < p.items(); b++ {
			all = append(all, exchange{a, b})
		}
	}
	return all
}

// Best returns the layout that takes the least.
func Best(t api.LaTask) ([]int, api.Errno) {
	p, e := planOf(t)
	if e != api.OK {
		return nil, e
	}
	if p.items() > api.MaxLaFew {
		return nil, api.ErrLong
	}
	return least(p.takes, p.firstLayouts()...), api.OK
}

// firstLayouts returns, in order, all layouts in which the first item is at the address 0 and each place is filled from the first line on.
// Any other layout takes the same as one of these that comes before it: lines can be exchanged, and all addresses turned.
func (p plan) firstLayouts() [][]int {
	layouts := [][]int{{0}}
	for range p.items() - 1 {
		var longer [][]int
		for _, layout := range layouts {
			for address := range p.addresses() {
				below := address < api.OrPlaces || !isFree(layout, address-api.OrPlaces)
				if below && isFree(layout, address) {
					longer = append(longer, append(slices.Clone(layout), address))
				}
			}
		}
		layouts = longer
	}
	return layouts
}

// least returns the first one of several of which a number is the least.
func least[T any](number func(T) int, several ...T) T {
	var best T
	lowest := 0
	for i, x := range several {
		if n := number(x); i == 0 || n < lowest {
			best, lowest = x, n
		}
	}
	return best
}
