package formula

import (
	"quicksilver/api"
	"quicksilver/order"
)

// Compile returns the program of a formula.
func Compile(f api.FoFormula) (api.FoProgram, api.Errno) {
	if e := Check(f); e != api.OK {
		return api.FoProgram{}, e
	}
	c := compiledOf(f)
	var store []int
	put := func(words ...int) { store = append(store, words...) }
	for _, o := range c.orders() {
		o.Next = len(store) + 1
		// The addresses are below OrStore: a formula is never that long.
		word, _ := order.Encode(o)
		put(word)
	}
	halt, _ := order.Encode(api.OrOrder{Op: api.OrHalt})
	put(halt)
	orders := len(store)
	put(make([]int, len(c.Vars))...)
	put(c.constants...)
	put(make([]int, c.deepest)...)
	return api.FoProgram{Store: store, Orders: orders}, api.OK
}

// compiled is a formula, the words of its constants, and how many values its pile ever has.
type compiled struct {
	api.FoFormula
	constants []int
	deepest   int
}

// compiledOf returns a formula without an error, with what is known of it.
func compiledOf(f api.FoFormula) compiled {
	c := compiled{FoFormula: f}
	depth := 0
	for _, n := range f.Code {
		if n.Kind == api.FoConst {
			word, _ := constantWord(n)
			c.constants = append(c.constants, word)
		}
		depth = depthAfter(depth, n)
		c.deepest = max(c.deepest, depth)
	}
	return c
}

// orders returns all orders but the last one, without the addresses of the next ones.
func (c compiled) orders() []api.OrOrder {
	// There are as many orders as variables and nodes, one that prints, and one that halts.
	variables := len(c.Vars) + len(c.Code) + 2
	constant := variables + len(c.Vars)
	first := constant + len(c.constants)
	var orders []api.OrOrder
	put := func(op, from, to int) { orders = append(orders, api.OrOrder{Op: op, From: from, To: to}) }
	for i := range c.Vars {
		put(api.OrRead, 0, variables+i)
	}
	free := first
	for _, n := range c.Code {
		switch n.Kind {
		case api.FoVar:
			put(api.OrMove, variables+n.Var, free)
		case api.FoConst:
			put(api.OrMove, constant, free)
			constant++
		default:
			put(operationOp(n.Kind), free-1, free-2)
		}
		free = depthAfter(free, n)
	}
	put(api.OrPrint, first, 0)
	return orders
}

// operationOp returns the Op of the order that does an operation.
func operationOp(kind int) int {
	switch kind {
	case api.FoAdd:
		return api.OrAdd
	case api.FoSub:
		return api.OrSub
	}
	return api.OrMul
}
