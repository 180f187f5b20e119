package order

import (
	"iter"
	"slices"

	"quicksilver/api"
)

// Run does some orders.
func Run(s api.OrState, most int) (api.OrState, api.Errno) {
	m, e := started(s, most)
	if e != api.OK {
		return api.OrState{}, e
	}
	for range m.steps(most) {
		// The machine keeps what the steps have done.
	}
	return m.OrState, api.OK
}

// Trace returns the orders that Run does.
func Trace(s api.OrState, most int) ([]api.OrStep, api.Errno) {
	m, e := started(s, most)
	if e != api.OK {
		return nil, e
	}
	return slices.Collect(m.steps(most)), api.OK
}

// machine is a machine at work: its state changes with each order.
type machine struct{ api.OrState }

// started returns a machine that begins with a state, in memory of its own.
func started(s api.OrState, most int) (*machine, api.Errno) {
	if _, _, e := Check(s); e != api.OK {
		return nil, e
	}
	if outside(0, api.MaxOrOrders, most) >= 0 {
		return nil, api.ErrRange
	}
	s.Store, s.Tape, s.Printed = slices.Clone(s.Store), slices.Clone(s.Tape), slices.Clone(s.Printed)
	return &machine{s}, api.OK
}

// steps does some orders, or fewer if the run ends before, and yields each of them when it is done.
func (m *machine) steps(most int) iter.Seq[api.OrStep] {
	return func(yield func(api.OrStep) bool) {
	run:
		for range most {
			step, at := m.next()
			m.Why = m.ending(step)
			switch m.Why {
			case api.OrGoing:
				m.do(step.Order)
				m.At, m.Time = at, step.Until
				m.Done++
				if !yield(step) {
					break run
				}
			default:
				break run
			}
		}
	}
}

// next returns the order that is taken now, and the address of the one after it.
func (m *machine) next() (step api.OrStep, at int) {
	step = api.OrStep{At: m.At, Order: orderOf(m.Store[m.At]), Time: m.Time}
	at, step.Until = following(step.Order, m.Time, signed(m.Store[step.Order.From]) < 0)
	return step, at
}

// ending returns why the run has ended, or ends at an order.
func (m *machine) ending(step api.OrStep) int {
	op := step.Order.Op
	switch {
	case m.Why != api.OrGoing:
		return m.Why
	case op == api.OrHalt:
		return api.OrHalted
	case op == api.OrRead && m.Taken == len(m.Tape):
		return api.OrNoTape
	case op == api.OrPrint && len(m.Printed) == api.MaxOrPrints:
		return api.OrFull
	case step.Until > api.MaxOrTime:
		return api.OrLate
	}
	return api.OrGoing
}

// do does to the store, the tape and the paper what an order does that can be done.
func (m *machine) do(o api.OrOrder) {
	word := m.Store[o.From]
	var deed func(to, word int)
	switch o.Op {
	case api.OrRead:
		word = m.take()
		fallthrough
	case api.OrMove:
		deed = m.write
	case api.OrSub:
		// Less a word is the same as together with the word below 0.
		word = -word
		fallthrough
	case api.OrAdd:
		deed = m.add
	case api.OrMul:
		deed = m.multiply
	case api.OrPrint:
		deed = m.print
	default:
		// OrTest only chooses the next order.
		return
	}
	deed(o.To, word)
}

// take returns the next word of the tape.
func (m *machine) take() int {
	word := m.Tape[m.Taken]
	m.Taken++
	return word
}

// write writes a number to an address, modulo all words.
func (m *machine) write(to, number int) { _, m.Store[to] = parted(number, api.OrBits) }

// add adds a number to the word at an address.
func (m *machine) add(to, number int) { m.write(to, m.Store[to]+number) }

// multiply multiplies the word at an address by a word; both are parts of 2^23.
func (m *machine) multiply(to, word int) {
	product := signed(m.Store[to]) * signed(word)
	m.write(to, product>>(api.OrBits-1))
}

// print prints a word; where an order would write does not matter.
func (m *machine) print(_, word int) { m.Printed = append(m.Printed, word) }
