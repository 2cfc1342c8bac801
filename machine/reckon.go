package machine

import (
	"spindle/api"
	"spindle/word"
)

func (m *Machine) operand(s *step) uint64 {
	if s.bySource {
		return m.regs[s.Src]
	}
	return uint64(s.Imm)
}

func (m *Machine) reckon(s *step) api.Errno {
	m.regs[s.Dst] = word.Narrow(s.reckoned(m.regs[s.Dst], m.operand(s)), s.width)
	return api.OK
}

// reckoned gives what an arithmetic instruction makes of its destination and its operand; the bits from the width on say nothing.
func (s *step) reckoned(a, b uint64) uint64 {
	switch s.Op & whatBits {
	case whatAdd:
		return word.Add(a, b)
	case whatSub:
		return word.Sub(a, b)
	case whatMul:
		return word.Mul(a, b)
	case whatDiv:
		return s.divided(a, b)
	case whatMod:
		return s.left(a, b)
	case whatOr:
		return word.Or(a, b)
	case whatAnd:
		return word.And(a, b)
	case whatXor:
		return word.Xor(a, b)
	case whatNeg:
		return word.Neg(a)
	case whatLsh:
		return word.Shl(a, b, s.width)
	case whatRsh:
		return word.Shr(a, b, s.width)
	case whatArsh:
		return word.Sar(a, b, s.width)
	}
	return s.moved(b)
}

// divided: Off tells div from sdiv.
func (s *step) divided(a, b uint64) uint64 {
	if s.Off != 0 {
		return word.SDiv(a, b, s.width)
	}
	return word.Div(a, b, s.width)
}

// left: Off tells mod from smod.
func (s *step) left(a, b uint64) uint64 {
	if s.Off != 0 {
		return word.SMod(a, b, s.width)
	}
	return word.Mod(a, b, s.width)
}

// moved: Off tells mov from movs8 and their like, and of these how many bits are taken.
func (s *step) moved(b uint64) uint64 {
	if s.Off != 0 {
		return word.Sign(b, s.Off)
	}
	return b
}

// order does le16 and its like, whose width is their Imm.
func (m *Machine) order(s *step) api.Errno {
	d := &m.regs[s.Dst]
	if s.Op == opLittle {
		*d = word.Narrow(*d, s.Imm)
	} else {
		*d = word.Swap(*d, s.Imm)
	}
	return api.OK
}

// layWide does lddw and ldmap.
func (m *Machine) layWide(s *step) api.Errno {
	if s.Src == srcTable {
		m.regs[s.Dst] = handle(s.Imm)
	} else {
		m.regs[s.Dst] = uint64(s.Imm)
	}
	return api.OK
}

func (m *Machine) branch(s *step) api.Errno {
	if s.holds(m.regs[s.Dst], m.operand(s)) {
		m.at = s.target
	}
	return api.OK
}

// holds tells whether a branch is taken.
func (s *step) holds(a, b uint64) bool {
	w := s.width
	switch s.Op & whatBits {
	case askEqual:
		return word.Narrow(a, w) == word.Narrow(b, w)
	case askOther:
		return word.Narrow(a, w) != word.Narrow(b, w)
	case askBits:
		return word.Narrow(word.And(a, b), w) != 0
	case askAbove:
		return word.Less(b, a, w)
	case askNotBelow:
		return !word.Less(a, b, w)
	case askBelow:
		return word.Less(a, b, w)
	case askNotAbove:
		return !word.Less(b, a, w)
	case askSignAbove:
		return word.SLess(b, a, w)
	case askSignNotBelow:
		return !word.SLess(a, b, w)
	case askSignBelow:
		return word.SLess(a, b, w)
	case askSignNotAbove:
		return !word.SLess(b, a, w)
	}
	return true
}
