package formula

import (
	"iter"

	"quicksilver/api"
)

// pile is values of which the last one that was put there is taken first.
type pile[T any] struct {
	values [api.MaxFoDepth]T
	many   int
}

func (p *pile[T]) put(value T) {
	p.values[p.many] = value
	p.many++
}

func (p *pile[T]) take() T {
	p.many--
	return p.values[p.many]
}

// computed yields the values of all nodes of a formula without an error, in order, with the indices of the nodes: those of variables and constants, and what comes of two values by the operation of a kind.
// Words, ranges and texts all come about this way.
func computed[T any](f api.FoFormula, valueOf func(n api.FoNode) T, operations map[int]func(first, second T) T) iter.Seq2[int, T] {
	return func(yield func(int, T) bool) {
		var values pile[T]
		for at, n := range f.Code {
			var value T
			if operation, ok := operations[n.Kind]; ok {
				second := values.take()
				first := values.take()
				value = operation(first, second)
			} else {
				value = valueOf(n)
			}
			values.put(value)
			if !yield(at, value) {
				return
			}
		}
	}
}

// last returns the last one of some values: that of a formula.
func last[T any](values iter.Seq2[int, T]) (value T) {
	for _, v := range values {
		value = v
	}
	return value
}
