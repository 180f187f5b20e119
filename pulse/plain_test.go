package pulse_test

import (
	"slices"

	"quicksilver/api"
	"quicksilver/order"
)

// plainSigned is a word with its sign.
func plainSigned(word int) int {
	if word < 8388608 {
		return word
	}
	return word - 16777216
}

// plainModulo is a number modulo another one.
func plainModulo(n, m int) int { return (n%m + m) % m }

// plainOrder is the order that is written as a word.
func plainOrder(word int) api.OrOrder {
	o, _ := order.Decode(word)
	return o
}

// plainBelongs reports whether an order can be in the phase of a state, as a list of what can be.
func plainBelongs(s api.PuState) bool {
	can := [][]int{{0, 1, 2, 3, 4, 5, 6, 7}, {1, 2, 3, 4, 5, 7}, {1, 2, 3, 4, 6}, {4}, {4}}[s.Phase]
	op := plainOrder(s.Order).Op
	if s.Phase == 1 && op == 7 && len(s.Printed) == 200 || s.Phase == 2 && op == 6 && s.Taken == len(s.Tape) {
		return false
	}
	return slices.Contains(can, op)
}

// plainWaits returns the address of the word for which a phase waits; none in PuCount.
func plainWaits(s api.PuState) int {
	o := plainOrder(s.Order)
	return []int{s.At, o.From, o.To, -1, o.To}[s.Phase]
}

// plainComes reports whether this word comes by.
func plainComes(s api.PuState) bool {
	return s.Phase != 3 && s.Clock%16 == plainWaits(s)%16
}

// plainNext ends an order of a state.
func plainNext(s api.PuState, at int) api.PuState {
	s.At, s.Done, s.Phase = at, s.Done+1, 0
	return s
}

// plainBit multiplies by the bit k of the operand.
func plainBit(s api.PuState, k int) api.PuState {
	part := plainSigned(s.Other)
	for range k {
		part *= 2
	}
	if k == 23 {
		part = -part
	}
	if plainBits(s.Operand)[k] {
		s.Product = plainModulo(s.Product+part+1<<47, 1<<48) - 1<<47
	}
	return s
}

// plainQuotient is a product divided by 2^23, rounded down.
func plainQuotient(product int) int {
	return (product - plainModulo(product, 8388608)) / 8388608
}

// plainStore does to the store, and to a product, what a minor cycle of a state does.
func plainStore(s api.PuState) api.PuState {
	o := plainOrder(s.Order)
	s.Store = slices.Clone(s.Store)
	if s.Phase == 3 {
		return plainBit(plainBit(s, 24-2*s.Count), 24-2*s.Count+1)
	}
	if s.Phase < 2 || !plainComes(s) {
		return s
	}
	here := &s.Store[o.To]
	switch {
	case s.Phase == 4:
		*here = plainQuotient(s.Product)
	case o.Op == 1:
		*here = s.Operand
	case o.Op == 2:
		*here += s.Operand
	case o.Op == 3:
		*here -= s.Operand
	case o.Op == 6:
		*here = s.Tape[s.Taken]
	}
	*here = plainModulo(*here, 16777216)
	return s
}

// plainRest does all else in a minor cycle of a state, in which a word has come by, or not.
func plainRest(s api.PuState, word int) api.PuState {
	o := plainOrder(s.Order)
	switch comes := plainComes(s); {
	case s.Phase == 0 && comes:
		o = plainOrder(word)
		switch {
		case o.Op == 0:
			s.Why = 1
		case o.Op == 6 && s.Taken == len(s.Tape):
			s.Why = 2
		case o.Op == 7 && len(s.Printed) == 200:
			s.Why = 3
		}
		if s.Why > 0 {
			return s
		}
		s.Order, s.Phase = word, 1
		if o.Op == 6 {
			s.Phase = 2
		}
	case s.Phase == 1 && comes:
		s.Operand, s.Phase = word, 2
		switch {
		case o.Op == 7:
			s.Printed = append(slices.Clone(s.Printed), word)
			s = plainNext(s, o.Next)
		case o.Op == 5 && word >= 8388608:
			s = plainNext(s, o.To)
		case o.Op == 5:
			s = plainNext(s, o.Next)
		}
	case s.Phase == 2 && comes && o.Op == 4:
		s.Other, s.Product, s.Count, s.Phase = word, 0, 12, 3
	case s.Phase == 2 && comes && o.Op == 6:
		s.Taken++
		s = plainNext(s, o.Next)
	case s.Phase == 3 && s.Count == 1:
		s.Count, s.Phase = 0, 4
	case s.Phase == 3:
		s.Count--
	case s.Phase == 2 && comes:
		s = plainNext(s, o.Next)
	case s.Phase == 4 && comes:
		s = plainNext(s, o.Next)
	}
	s.Clock++
	return s
}

// plainMinors does minor cycles one after the other.
func plainMinors(s api.PuState, many int) api.PuState {
	for range many {
		switch {
		case s.Why > 0:
			return s
		case s.Clock == 1000000000:
			s.Why = 4
			return s
		}
		word := 0
		if s.Phase != 3 {
			word = s.Store[plainWaits(s)]
		}
		s = plainRest(plainStore(s), word)
	}
	return s
}

// plainBits are the bits of a word, the least one first.
func plainBits(word int) []bool {
	bits := make([]bool, 24)
	for i := range bits {
		bits[i], word = word%2 == 1, word/2
	}
	return bits
}

// plainLines are the pulses of the words of a store.
func plainLines(store []int) [][]bool {
	var lines [][]bool
	for words := range slices.Chunk(store, 16) {
		var line []bool
		for _, word := range words {
			line = append(line, plainBits(word)...)
		}
		lines = append(lines, line)
	}
	return lines
}

// plainOne is 1 for a pulse, and 0 for none.
func plainOne(pulse bool) int {
	if pulse {
		return 1
	}
	return 0
}

// plainPulse does what a beat does with the pulse x of the word for which the phase waits.
func plainPulse(b api.PuBits, x *bool) api.PuBits {
	o, y := plainOrder(b.Now.Order), plainOne(plainBits(b.Now.Operand)[b.Beat])
	c := -1
	switch {
	case b.Now.Phase == 4:
		*x = plainBits(plainModulo(plainQuotient(b.Now.Product), 16777216))[b.Beat]
	case b.Now.Phase < 2 || o.Op == 4:
		b.Sum += plainOne(*x) << b.Beat
	case o.Op == 1:
		*x = y == 1
	case o.Op == 6:
		*x = plainBits(b.Now.Tape[b.Now.Taken])[b.Beat]
	case o.Op == 2:
		c = plainOne(*x) + y + b.Carry
	case o.Op == 3 && b.Beat == 0:
		c = plainOne(*x) + 1 - y + 1
	case o.Op == 3:
		c = plainOne(*x) + 1 - y + b.Carry
	}
	if c >= 0 {
		*x, b.Carry = c%2 == 1, c/2
	}
	return b
}

// plainBeats does beats one after the other.
func plainBeats(b api.PuBits, many int) api.PuBits {
	b.Lines = slices.Clone(b.Lines)
	for i := range b.Lines {
		b.Lines[i] = slices.Clone(b.Lines[i])
	}
	for range many {
		switch {
		case b.Now.Why > 0:
			return b
		case b.Now.Clock == 1000000000:
			b.Now.Why = 4
			return b
		}
		if plainComes(b.Now) {
			b = plainPulse(b, &b.Lines[plainWaits(b.Now)/16][b.Now.Clock%16*24+b.Beat])
		}
		if k := 24 - 2*b.Now.Count; b.Now.Phase == 3 && b.Beat == 11 {
			b.Now = plainBit(b.Now, k)
		} else if b.Now.Phase == 3 && b.Beat == 23 {
			b.Now = plainBit(b.Now, k+1)
		}
		b.Beat++
		if b.Beat == 24 {
			b.Now = plainRest(b.Now, b.Sum)
			b.Beat, b.Carry, b.Sum = 0, 0, 0
		}
	}
	return b
}
