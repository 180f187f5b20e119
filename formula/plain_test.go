package formula_test

import (
	"math/big"
	"regexp"
	"slices"
	"strconv"
	"strings"

	"quicksilver/api"
)

// Here the definitions of the chapter are read word by word, with trees and exact numbers.

// tree is a node with the values that it takes.
type tree struct {
	api.FoNode
	left, right *tree
}

// plainTree returns the tree of nodes that make one value.
func plainTree(code []api.FoNode) *tree {
	var pile []*tree
	for _, n := range code {
		t := &tree{FoNode: n}
		if n.Kind >= 3 {
			t.left, t.right = pile[len(pile)-2], pile[len(pile)-1]
			pile = pile[:len(pile)-2]
		}
		pile = append(pile, t)
	}
	return pile[0]
}

// plainDeepest returns how many values there are ever on the pile.
func plainDeepest(code []api.FoNode) int {
	deepest, depth := 0, 0
	for _, n := range code {
		depth++
		if n.Kind >= 3 {
			depth -= 2
		}
		deepest = max(deepest, depth)
	}
	return deepest
}

var (
	tokenForm    = regexp.MustCompile(`[a-zA-Z0-9_.]+|[^ ]`)
	nameForm     = regexp.MustCompile(`^[a-z]([a-z0-9_]{0,18}[a-z0-9])?$`)
	constantForm = regexp.MustCompile(`^0\.([0-9]|[0-9]{1,5}[1-9])$`)
)

// plainCheck returns the error of a formula.
func plainCheck(f api.FoFormula) api.Errno {
	if len(f.Vars) > 8 || len(f.Code) < 1 || len(f.Code) > 40 {
		return api.ErrLong
	}
	seen := map[string]bool{}
	for _, name := range f.Vars {
		if !nameForm.MatchString(name) {
			return api.ErrForm
		}
		if seen[name] {
			return api.ErrTwice
		}
		seen[name] = true
	}
	pile := 0
	for _, n := range f.Code {
		if n.Kind != 1 && n.Kind != 2 && n.Kind != 3 && n.Kind != 4 && n.Kind != 5 {
			return api.ErrArg
		}
		if !plainFields(n, len(f.Vars)) {
			return api.ErrRange
		}
		if n.Kind <= 2 {
			pile++
		} else {
			if pile < 2 {
				return api.ErrForm
			}
			pile--
		}
		if pile > 12 {
			return api.ErrLong
		}
	}
	if pile != 1 {
		return api.ErrForm
	}
	var firsts []int
	for _, n := range f.Code {
		if n.Kind == 1 && !slices.Contains(firsts, n.Var) {
			firsts = append(firsts, n.Var)
		}
	}
	if len(firsts) != len(f.Vars) || !slices.IsSorted(firsts) {
		return api.ErrArg
	}
	return api.OK
}

// plainFields reports whether the fields of a node are as stated.
func plainFields(n api.FoNode, vars int) bool {
	switch n.Kind {
	case 1:
		return 0 <= n.Var && n.Var < vars && n.Num == 0 && n.Places == 0
	case 2:
		if n.Var != 0 || n.Places < 1 || n.Places > 6 || n.Num < 0 || n.Num > 999999 {
			return false
		}
		digits := strconv.Itoa(n.Num)
		if len(digits) > n.Places {
			return false
		}
		return constantForm.MatchString("0." + strings.Repeat("0", n.Places-len(digits)) + digits)
	}
	return n.Var == 0 && n.Num == 0 && n.Places == 0
}

// plainRead returns the formula of a text: it is the text's operands and signs, brought into order by their ranks.
func plainRead(text string) (f api.FoFormula, at int, e api.Errno) {
	if len(text) > 600 {
		return f, 0, api.ErrLong
	}
	if at := plainWrong(text); at >= 0 {
		return f, at, api.ErrForm
	}
	var code []api.FoNode
	var signs []string
	rank := map[string]int{"(": 0, "+": 1, "-": 1, "*": 2}
	kind := map[string]int{"+": 3, "-": 4, "*": 5}
	drop := func(least int) {
		for len(signs) > 0 && rank[signs[len(signs)-1]] >= least {
			code = append(code, op(kind[signs[len(signs)-1]]))
			signs = signs[:len(signs)-1]
		}
	}
	for _, token := range tokenForm.FindAllString(text, -1) {
		switch {
		case token == "(":
			signs = append(signs, token)
		case token == ")":
			drop(1)
			signs = signs[:len(signs)-1]
		case rank[token] > 0:
			drop(rank[token])
			signs = append(signs, token)
		case nameForm.MatchString(token):
			if !slices.Contains(f.Vars, token) {
				f.Vars = append(f.Vars, token)
			}
			code = append(code, v(slices.Index(f.Vars, token)))
		default:
			num, _ := strconv.Atoi(token[2:])
			code = append(code, c(num, len(token)-2))
		}
	}
	drop(1)
	if len(f.Vars) > 8 || len(code) > 40 || plainDeepest(code) > 12 {
		return api.FoFormula{}, 0, api.ErrLong
	}
	f.Code = code
	return f, 0, api.OK
}

// plainWrong returns the index of the first token that cannot be there, or -1: after an operand come signs and closing brackets, otherwise operands and opening ones.
func plainWrong(text string) int {
	open, after := 0, false
	for _, where := range tokenForm.FindAllStringIndex(text, -1) {
		token := text[where[0]:where[1]]
		switch {
		case !after && token == "(":
			open++
		case !after && (nameForm.MatchString(token) || constantForm.MatchString(token)):
			after = true
		case after && (token == "+" || token == "-" || token == "*"):
			after = false
		case after && token == ")" && open > 0:
			open--
		default:
			return where[0]
		}
	}
	if !after || open > 0 {
		return len(text)
	}
	return -1
}

// plainText returns the text of a tree.
func plainText(t *tree, names []string) string {
	switch t.Kind {
	case 1:
		return names[t.Var]
	case 2:
		digits := strconv.Itoa(t.Num)
		for len(digits) < t.Places {
			digits = "0" + digits
		}
		return "0." + digits
	}
	left, right := plainText(t.left, names), plainText(t.right, names)
	sumOnLeft := t.left.Kind == 3 || t.left.Kind == 4
	sumOnRight := t.right.Kind == 3 || t.right.Kind == 4
	if t.Kind == 5 && sumOnLeft {
		left = "(" + left + ")"
	}
	if sumOnRight || t.Kind == 5 && t.right.Kind == 5 {
		right = "(" + right + ")"
	}
	return left + map[int]string{3: "+", 4: "-", 5: "*"}[t.Kind] + right
}

// rat is a fraction, power a power of 2.
func rat(a, b int) *big.Rat { return big.NewRat(int64(a), int64(b)) }

func power(exp int) *big.Rat {
	p := new(big.Rat).SetInt(new(big.Int).Lsh(big.NewInt(1), uint(max(exp, -exp))))
	if exp < 0 {
		p.Inv(p)
	}
	return p
}

// down and towards0 are a fraction, rounded.
func down(x *big.Rat) int {
	return int(new(big.Int).Div(x.Num(), x.Denom()).Int64())
}

func towards0(x *big.Rat) int {
	return int(new(big.Int).Quo(x.Num(), x.Denom()).Int64())
}

// constantUnits returns the exact value of a constant, in units.
func constantUnits(n api.FoNode) *big.Rat {
	x := rat(n.Num*8388608, 1)
	for range n.Places {
		x.Quo(x, rat(10, 1))
	}
	return x
}

// plainConstant returns the word of a constant.
func plainConstant(n api.FoNode) int {
	return down(new(big.Rat).Add(constantUnits(n), rat(1, 2)))
}

// plainSigned returns a word with its sign.
func plainSigned(word int) int {
	if word >= 8388608 {
		return word - 16777216
	}
	return word
}

// plainModulo returns a number modulo all words.
func plainModulo(n int) int { return (n%16777216 + 16777216) % 16777216 }

// plainWord returns the word that a tree comes to.
func plainWord(t *tree, words []int) int {
	switch t.Kind {
	case 1:
		return words[t.Var]
	case 2:
		return plainConstant(t.FoNode)
	}
	a, b := plainWord(t.left, words), plainWord(t.right, words)
	switch t.Kind {
	case 3:
		return plainModulo(a + b)
	case 4:
		return plainModulo(a - b)
	}
	return plainModulo(down(rat(plainSigned(a)*plainSigned(b), 8388608)))
}

// plainExact returns the exact value of a tree in units, for words with their signs.
func plainExact(t *tree, signed []int) *big.Rat {
	switch t.Kind {
	case 1:
		return rat(signed[t.Var], 1)
	case 2:
		return constantUnits(t.FoNode)
	}
	a, b := plainExact(t.left, signed), plainExact(t.right, signed)
	switch t.Kind {
	case 3:
		return a.Add(a, b)
	case 4:
		return a.Sub(a, b)
	}
	a.Mul(a, b)
	return a.Quo(a, rat(8388608, 1))
}

// plainRange returns the range of the value of nodes, whether it can be too great or not.
func plainRange(t *tree, spans []api.Span) api.FoRange {
	switch t.Kind {
	case 1:
		return api.FoRange{Words: spans[t.Var]}
	case 2:
		w := plainConstant(t.FoNode)
		r := api.FoRange{Words: span(w, w)}
		if !constantUnits(t.FoNode).IsInt() {
			r.Error = 1
		}
		return r
	}
	x, y := plainRange(t.left, spans), plainRange(t.right, spans)
	a, b := x.Words, y.Words
	switch t.Kind {
	case 3:
		return api.FoRange{Words: span(a.Lo+b.Lo, a.Hi+b.Hi), Error: x.Error + y.Error}
	case 4:
		return api.FoRange{Words: span(a.Lo-b.Hi, a.Hi-b.Lo), Error: x.Error + y.Error}
	}
	var ends, sizes []int
	for _, p := range []int{a.Lo, a.Hi} {
		for _, q := range []int{b.Lo, b.Hi} {
			ends = append(ends, down(rat(p*q, 8388608)))
		}
	}
	for _, s := range []api.Span{a, b} {
		sizes = append(sizes, max(s.Lo, -s.Lo, s.Hi, -s.Hi))
	}
	parts := rat(2*sizes[0]*y.Error+2*sizes[1]*x.Error+x.Error*y.Error, 16777216)
	up := -down(parts.Neg(parts))
	return api.FoRange{Words: span(slices.Min(ends), slices.Max(ends)), Error: up + 2}
}

// plainFloat returns a number, made floating.
func plainFloat(x *big.Rat) (api.FoFloat, api.Errno) {
	if x.Sign() == 0 {
		return api.FoFloat{}, api.OK
	}
	near := x.Num().BitLen() - x.Denom().BitLen()
	for exp := near - 2; ; exp++ {
		scaled := new(big.Rat).Mul(x, power(23-exp))
		if scaled.Num().BitLen()-scaled.Denom().BitLen() > 30 {
			continue
		}
		mant := towards0(scaled)
		if size := max(mant, -mant); size < 4194304 || size > 8388607 {
			continue
		}
		switch {
		case exp < -64:
			return api.FoFloat{}, api.OK
		case exp > 63:
			return api.FoFloat{}, api.FoErrBig
		}
		return api.FoFloat{Mant: mant, Exp: exp}, api.OK
	}
}

// exactFloat returns the number that a floating number is.
func exactFloat(x api.FoFloat) *big.Rat {
	return new(big.Rat).Mul(rat(x.Mant, 1), power(x.Exp-23))
}

// plainStep returns the result of a step.
func plainStep(kind int, a, b api.FoFloat) (api.FoFloat, api.Errno) {
	if kind == 4 {
		b.Mant = -b.Mant
	}
	switch {
	case kind == 5:
		return plainFloat(new(big.Rat).Mul(exactFloat(a), exactFloat(b)))
	case kind == 6 && b.Mant == 0:
		return api.FoFloat{}, api.ErrZero
	case kind == 6:
		n := towards0(rat(a.Mant*1073741824, b.Mant))
		return plainFloat(new(big.Rat).Mul(rat(n, 1), power(a.Exp-b.Exp-30)))
	case a.Mant == 0:
		return b, api.OK
	case b.Mant == 0:
		return a, api.OK
	}
	great, less := a, b
	if b.Exp > a.Exp {
		great, less = b, a
	}
	moved := new(big.Rat).Mul(rat(less.Mant*1073741824, 1), power(less.Exp-great.Exp))
	n := great.Mant*1073741824 + towards0(moved)
	return plainFloat(new(big.Rat).Mul(rat(n, 1), power(great.Exp-53)))
}
