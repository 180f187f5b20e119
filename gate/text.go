package gate

import (
	"strconv"
	"strings"

	"quicksilver/api"
)

// The words at the beginning of lines that are no gates.
const (
	inputsWord  = "inputs"
	outputsWord = "outputs"
)

// kindWords are the words for the kinds of gates.
var kindWords = [api.GaDelay + 1]string{api.GaAnd: "and", api.GaOr: "or", api.GaXor: "xor", api.GaNot: "not", api.GaDelay: "delay"}

// Write returns the text of a net.
func Write(n api.GaNet) (string, api.Errno) {
	if e := netError(n); e != api.OK {
		return "", e
	}
	text := lineOf(inputsWord, n.Inputs)
	for _, g := range n.Gates {
		if takesTwo(g.Kind) {
			text += lineOf(kindWords[g.Kind], g.A, g.B)
		} else {
			text += lineOf(kindWords[g.Kind], g.A)
		}
	}
	return text + lineOf(outputsWord, n.Outputs...), api.OK
}

// lineOf returns a line of a word and numbers.
func lineOf(word string, numbers ...int) string {
	line := word
	for _, n := range numbers {
		line += " " + strconv.Itoa(n)
	}
	return line + "\n"
}

// Read returns the net of a text.
func Read(text string) (n api.GaNet, e api.Errno) {
	if len(text) > api.MaxGaText {
		return api.GaNet{}, api.ErrLong
	}
	defer func() {
		if recover() != nil {
			n, e = api.GaNet{}, api.ErrForm
		}
	}()
	r := reader{rest: text}
	word, numbers := r.line()
	must(word == inputsWord && len(numbers) == 1)
	n.Inputs = numbers[0]
	for {
		word, numbers = r.line()
		if word == outputsWord {
			break
		}
		n.Gates = append(n.Gates, gateOf(word, numbers))
	}
	n.Outputs = numbers
	must(r.rest == "" && netError(n) == api.OK)
	return n, api.OK
}

// reader takes the lines of a text from its front, and panics if they have not the form.
type reader struct{ rest string }

// line takes a line: its word and its numbers.
func (r *reader) line() (word string, numbers []int) {
	line, rest, ended := strings.Cut(r.rest, "\n")
	must(ended)
	r.rest = rest
	parts := strings.Split(line, " ")
	for _, part := range parts[1:] {
		numbers = append(numbers, numberOf(part))
	}
	return parts[0], numbers
}

// numberOf returns the number that a text is, and panics if it is none.
func numberOf(text string) int {
	n, err := strconv.Atoi(text)
	// Written again it is the same only without signs and zeros at its beginning.
	must(err == nil && n >= 0 && strconv.Itoa(n) == text)
	return n
}

// gateOf returns the gate of a line, and panics if it is none.
func gateOf(word string, numbers []int) api.GaGate {
	kind := kindOf(word)
	if takesTwo(kind) {
		must(len(numbers) == 2)
		return api.GaGate{Kind: kind, A: numbers[0], B: numbers[1]}
	}
	must(len(numbers) == 1)
	return api.GaGate{Kind: kind, A: numbers[0]}
}

// kindOf returns the kind of gates that a word names, and panics if it names none.
func kindOf(word string) int {
	for kind := api.GaAnd; kind <= api.GaDelay; kind++ {
		if word == kindWords[kind] {
			return kind
		}
	}
	panic(api.ErrForm)
}

func must(ok bool) {
	if !ok {
		panic(api.ErrForm)
	}
}
