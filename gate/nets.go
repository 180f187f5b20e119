package gate

import (
	"iter"

	"quicksilver/api"
)

// nets is a net at work, 64 times at once: the bit k of each word belongs to the net k.
// As the nets differ in their inputs, states and faults alone, an operation of words does the work of a gate in all of them.
type nets struct {
	api.GaNet
	delays  []int
	kinds   [api.GaDelay + 1]func(at int) uint64
	signals []uint64    // of the beat that has passed
	held    []uint64    // for each gate that is a delay, its signal in the beat that comes
	stuck   [2][]uint64 // for each signal, in which nets it is stuck at 0, and at 1
}

// atWork returns nets without faults, in the state 0.
func atWork(n api.GaNet) *nets {
	count := signalsOf(n)
	w := &nets{
		GaNet:   n,
		delays:  delaysOf(n),
		signals: make([]uint64, count),
		held:    make([]uint64, len(n.Gates)),
		stuck:   [2][]uint64{make([]uint64, count), make([]uint64, count)},
	}
	w.kinds = [api.GaDelay + 1]func(at int) uint64{
		api.GaAnd:   w.and,
		api.GaOr:    w.or,
		api.GaXor:   w.xor,
		api.GaNot:   w.not,
		api.GaDelay: w.delay,
	}
	return w
}

// withFault returns nets all of which have a fault, in the state 0.
func withFault(n api.GaNet, f api.GaFault) *nets {
	w := atWork(n)
	w.stuck[f.Stuck][f.Signal] = ^uint64(0)
	return w
}

// withFaults returns nets in the state 0: the net 0 has no fault, the net 1 the first fault, and so on.
func withFaults(n api.GaNet, faults []api.GaFault) *nets {
	w := atWork(n)
	for i, f := range faults {
		w.stuck[f.Stuck][f.Signal] |= 1 << (i + 1)
	}
	return w
}

func (w *nets) and(at int) uint64 { return w.signals[w.Gates[at].A] & w.signals[w.Gates[at].B] }

func (w *nets) or(at int) uint64 { return w.signals[w.Gates[at].A] | w.signals[w.Gates[at].B] }

func (w *nets) xor(at int) uint64 { return w.signals[w.Gates[at].A] ^ w.signals[w.Gates[at].B] }

func (w *nets) not(at int) uint64 { return ^w.signals[w.Gates[at].A] }

func (w *nets) delay(at int) uint64 { return w.held[at] }

// start puts all nets into a state.
func (w *nets) start(state int) {
	for i, word := range forAll(state, len(w.delays)) {
		w.held[w.delays[i]] = word
	}
}

// beat lets a beat pass.
func (w *nets) beat(inputs []uint64) {
	for i, word := range inputs {
		w.set(i, word)
	}
	for at, g := range w.Gates {
		w.set(w.Inputs+at, w.kinds[g.Kind](at))
	}
	// Only now are the signals there that come later than the delays that take them.
	for _, at := range w.delays {
		w.held[at] = w.signals[w.Gates[at].A]
	}
}

// set gives a signal a value, in the nets in which it is not stuck.
func (w *nets) set(signal int, word uint64) {
	w.signals[signal] = word&^w.stuck[0][signal] | w.stuck[1][signal]
}

// state returns the state of a net.
func (w *nets) state(net int) int { return number(w.held, w.delays, net) }

// output returns the output of a net.
func (w *nets) output(net int) int { return number(w.signals, w.Outputs, net) }

// beats lets the beats of the same inputs for all nets pass, from the state 0 on, and yields each of them when it has passed.
func (w *nets) beats(inputs []int) iter.Seq[int] {
	return func(yield func(int) bool) {
		w.start(0)
		for beat, input := range inputs {
			w.beat(forAll(input, w.Inputs))
			if !yield(beat) {
				return
			}
		}
	}
}

// outputs returns the outputs of the first net, beat by beat.
func (w *nets) outputs(inputs []int) []int {
	outputs := make([]int, len(inputs))
	for beat := range w.beats(inputs) {
		outputs[beat] = w.output(0)
	}
	return outputs
}

// number returns the number whose bit i is that of a net in the word with the index i of at.
func number(words []uint64, at []int, net int) int {
	n := 0
	for i, k := range at {
		n |= int(words[k]>>net&1) << i
	}
	return n
}

// forAll returns a word for each of some bits of a number, which all nets get.
func forAll(number, bits int) []uint64 {
	words := make([]uint64, bits)
	for i := range words {
		words[i] = everywhere(uint64(number) >> i)
	}
	return words
}

// everywhere returns the word whose bits are all the lowest one of a number.
func everywhere(n uint64) uint64 { return -(n & 1) }

// forEach returns a word for each of some bits of numbers; the net k gets the number k.
func forEach(bits int) []uint64 {
	words := make([]uint64, bits)
	for net := range 1 << bits {
		for i := range words {
			words[i] |= uint64(net>>i&1) << net
		}
	}
	return words
}
