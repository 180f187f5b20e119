package formula

import (
	"quicksilver/api"
	"quicksilver/order"
)

// unitBits is how many bits of a word are behind the point.
const unitBits = api.OrBits - 1

// Eval returns the word that a formula comes to.
func Eval(f api.FoFormula, words []int) (int, api.Errno) {
	if e := Check(f); e != api.OK {
		return 0, e
	}
	if len(words) != len(f.Vars) {
		return 0, api.ErrArg
	}
	for _, word := range words {
		if _, e := order.Signed(word); e != api.OK {
			return 0, e
		}
	}
	m := machine{words}
	return last(computed(f, m.word, map[int]func(first, second int) int{
		api.FoAdd: m.add,
		api.FoSub: m.subtract,
		api.FoMul: m.multiply,
	})), api.OK
}

// machine computes as the machine does, with the words of the variables.
type machine struct{ variables []int }

// word returns the word of a variable or a constant.
func (m machine) word(n api.FoNode) int {
	if n.Kind == api.FoVar {
		return m.variables[n.Var]
	}
	word, _ := constantWord(n)
	return word
}

func (m machine) add(first, second int) int { return wordOf(first + second) }

func (m machine) subtract(first, second int) int { return wordOf(first - second) }

func (m machine) multiply(first, second int) int {
	a, _ := order.Signed(first)
	b, _ := order.Signed(second)
	return wordOf(product(a, b))
}

// wordOf returns the word that a number is, modulo all words.
func wordOf(n int) int { return n & (api.OrWord - 1) }

// product returns the product of two numbers of units, rounded down.
func product(a, b int) int { return a * b >> unitBits }

// constantWord returns the word of a constant, and whether it is exactly its value.
func constantWord(n api.FoNode) (word int, exact bool) {
	units, parts := n.Num*api.FoOne, tenTo(n.Places)
	return (2*units + parts) / (2 * parts), units%parts == 0
}

// Range returns which words a formula can come to, and how exact they are; or the first node that can be too great.
func Range(f api.FoFormula, spans []api.Span) (r api.FoRange, at int, e api.Errno) {
	if e := Check(f); e != api.OK {
		return api.FoRange{}, 0, e
	}
	if len(spans) != len(f.Vars) {
		return api.FoRange{}, 0, api.ErrArg
	}
	for i, s := range spans {
		if e := spanError(s); e != api.OK {
			return api.FoRange{}, i, e
		}
	}
	b := bounds{spans}
	ranges := computed(f, b.node, map[int]func(first, second api.FoRange) api.FoRange{
		api.FoAdd: b.sum,
		api.FoSub: b.difference,
		api.FoMul: b.product,
	})
	for i, node := range ranges {
		if !inUnits(node.Words) {
			return api.FoRange{}, i, api.FoErrOver
		}
		r = node
	}
	return r, 0, api.OK
}

// spanError returns the error of the span of a variable.
func spanError(s api.Span) api.Errno {
	switch {
	case !inUnits(s):
		return api.ErrRange
	case s.Lo > s.Hi:
		return api.ErrArg
	}
	return api.OK
}

// inUnits reports whether the ends of a span are words, Signed.
func inUnits(s api.Span) bool {
	return within(-api.FoOne, api.FoOne-1, s.Lo) && within(-api.FoOne, api.FoOne-1, s.Hi)
}

// bounds finds the ranges of nodes, with the spans of the variables.
type bounds struct{ variables []api.Span }

// node returns the range of a variable or a constant.
func (b bounds) node(n api.FoNode) api.FoRange {
	if n.Kind == api.FoVar {
		return api.FoRange{Words: b.variables[n.Var]}
	}
	word, exact := constantWord(n)
	r := api.FoRange{Words: api.Span{Lo: word, Hi: word}}
	if !exact {
		r.Error = 1
	}
	return r
}

func (b bounds) sum(first, second api.FoRange) api.FoRange {
	return api.FoRange{
		Words: api.Span{Lo: first.Words.Lo + second.Words.Lo, Hi: first.Words.Hi + second.Words.Hi},
		Error: first.Error + second.Error,
	}
}

func (b bounds) difference(first, second api.FoRange) api.FoRange {
	second.Words = api.Span{Lo: -second.Words.Hi, Hi: -second.Words.Lo}
	return b.sum(first, second)
}

func (b bounds) product(first, second api.FoRange) api.FoRange {
	p, q := first.Words, second.Words
	ends := [...]int{product(p.Lo, q.Lo), product(p.Lo, q.Hi), product(p.Hi, q.Lo), product(p.Hi, q.Hi)}
	words := api.Span{Lo: ends[0], Hi: ends[0]}
	for _, end := range ends {
		words = api.Span{Lo: min(words.Lo, end), Hi: max(words.Hi, end)}
	}
	parts := 2*greatestSize(p)*second.Error + 2*greatestSize(q)*first.Error + first.Error*second.Error
	// Two halves of a unit are lost at most when the machine rounds down.
	return api.FoRange{Words: words, Error: (parts+2*api.FoOne-1)/(2*api.FoOne) + 2}
}

// greatestSize returns the greatest distance from 0 in a span.
func greatestSize(s api.Span) int { return max(-s.Lo, s.Hi) }
