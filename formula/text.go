package formula

import (
	"iter"
	"slices"
	"strconv"
	"strings"

	"quicksilver/api"
	"quicksilver/line"
)

// pointZero is the beginning of all constants.
const pointZero = "0."

// token is a part of a string: a sign, a row, or a byte that belongs to none of them; the last one, behind all bytes, is empty.
type token struct {
	at   int
	text string
}

// tokens yields the tokens of a string.
func tokens(text string) iter.Seq[token] {
	return func(yield func(token) bool) {
		for at := 0; at < len(text); {
			end := at + 1
			for inRow(text[at]) && end < len(text) && inRow(text[end]) {
				end++
			}
			if text[at] != ' ' && !yield(token{at, text[at:end]}) {
				return
			}
			at = end
		}
		yield(token{at: len(text)})
	}
}

// inRow reports whether a byte is one of those that make names and constants together.
func inRow(c byte) bool {
	return 'a' <= c && c <= 'z' || 'A' <= c && c <= 'Z' || '0' <= c && c <= '9' || c == '_' || c == '.'
}

// Read returns the formula of a text; or the place of the first error.
func Read(text string) (f api.FoFormula, at int, e api.Errno) {
	if len(text) > api.MaxFoText {
		return api.FoFormula{}, 0, api.ErrLong
	}
	defer func() {
		if wrong, ok := recover().(token); ok {
			f, at, e = api.FoFormula{}, wrong.at, api.ErrForm
		}
	}()
	var r reader
	for t := range tokens(text) {
		r.rest = append(r.rest, t)
	}
	r.sum()
	r.needs("")
	// All that can be wrong with what was read is that there is too much of it.
	if e := Check(r.FoFormula); e != api.OK {
		return api.FoFormula{}, 0, e
	}
	return r.FoFormula, 0, api.OK
}

// reader is a formula as far as it has been read, and the tokens that come next. It panics with a token that cannot be there.
type reader struct {
	api.FoFormula
	rest []token
}

// sum reads a sum.
func (r *reader) sum() {
	r.product()
	for {
		switch {
		case r.takes("+"):
			r.product()
			r.add(api.FoNode{Kind: api.FoAdd})
		case r.takes("-"):
			r.product()
			r.add(api.FoNode{Kind: api.FoSub})
		default:
			return
		}
	}
}

// product reads a product.
func (r *reader) product() {
	r.operand()
	for r.takes("*") {
		r.operand()
		r.add(api.FoNode{Kind: api.FoMul})
	}
}

// operand reads an operand.
func (r *reader) operand() {
	if r.takes("(") {
		r.sum()
		r.needs(")")
		return
	}
	t := r.rest[0]
	if line.Name(t.text) {
		r.add(api.FoNode{Kind: api.FoVar, Var: r.variable(t.text)})
	} else if n, ok := constantOf(t.text); ok {
		r.add(n)
	} else {
		panic(t)
	}
	r.rest = r.rest[1:]
}

// takes reports whether a text comes next, and takes it if so.
func (r *reader) takes(text string) bool {
	if r.rest[0].text != text {
		return false
	}
	r.rest = r.rest[1:]
	return true
}

// needs takes a text that has to come next.
func (r *reader) needs(text string) {
	t := r.rest[0]
	if !r.takes(text) {
		panic(t)
	}
}

func (r *reader) add(n api.FoNode) { r.Code = append(r.Code, n) }

// variable returns the index of the variable with a name, which is a new one if there is none yet.
func (r *reader) variable(name string) int {
	at := slices.Index(r.Vars, name)
	if at < 0 {
		at = len(r.Vars)
		r.Vars = append(r.Vars, name)
	}
	return at
}

// constantOf returns the constant that is written as a row, and whether it is one.
func constantOf(row string) (n api.FoNode, ok bool) {
	digits, found := strings.CutPrefix(row, pointZero)
	num, err := strconv.Atoi(digits)
	if !found || err != nil || !isConstant(num, len(digits)) {
		return api.FoNode{}, false
	}
	return api.FoNode{Kind: api.FoConst, Num: num, Places: len(digits)}, true
}

// How tightly the parts of an operand are bound.
const (
	asSum = iota
	asProduct
	asOne
)

// operand is the text of a node, without brackets around it, and how tightly its parts are bound.
type operand struct {
	text  string
	bound int
}

// inBrackets returns the text of an operand, with brackets around it or without.
func (o operand) inBrackets(needed bool) string {
	if needed {
		return "(" + o.text + ")"
	}
	return o.text
}

// Write returns the text of a formula.
func Write(f api.FoFormula) (string, api.Errno) {
	if e := Check(f); e != api.OK {
		return "", e
	}
	w := writer{f.Vars}
	return last(computed(f, w.operand, map[int]func(first, second operand) operand{
		api.FoAdd: w.sum,
		api.FoSub: w.difference,
		api.FoMul: w.product,
	})).text, api.OK
}

// writer writes the operands of a formula with these variables.
type writer struct{ vars []string }

// operand returns the text of a variable or a constant.
func (w writer) operand(n api.FoNode) operand {
	if n.Kind == api.FoVar {
		return operand{w.vars[n.Var], asOne}
	}
	digits := strconv.Itoa(n.Num)
	zeros := strings.Repeat("0", n.Places-len(digits))
	return operand{pointZero + zeros + digits, asOne}
}

func (w writer) sum(first, second operand) operand { return joined(asSum, first, "+", second) }

func (w writer) difference(first, second operand) operand { return joined(asSum, first, "-", second) }

func (w writer) product(first, second operand) operand { return joined(asProduct, first, "*", second) }

// joined returns the text of an operation that binds its operands so tightly.
// As what stands on the left is computed first, a second operand that is bound as tightly needs brackets, too.
func joined(bound int, first operand, sign string, second operand) operand {
	left := first.inBrackets(first.bound < bound)
	right := second.inBrackets(second.bound <= bound)
	return operand{left + sign + right, bound}
}
