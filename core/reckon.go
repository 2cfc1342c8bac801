package core

import (
	"spindle/api"
	"spindle/word"
)

func (c *Core) operand(s *Step) uint64 {
	if s.bySource {
		return c.Regs[s.Src]
	}
	return uint64(s.Imm)
}

func (c *Core) reckon(s *Step) api.Errno {
	c.Regs[s.Dst] = word.Narrow(s.reckoned(c.Regs[s.Dst], c.operand(s)), s.width)
	return api.OK
}

// reckoned gives what an arithmetic instruction makes of its destination and its operand; the bits from the width on say nothing.
func (s *Step) reckoned(a, b uint64) uint64 {
	switch s.Op & whatBits {
	case whatAdd:
		return word.Add(a, b)
	case whatSub:
		return word.Sub(a, b)
	case whatMul:
		return word.Mul(a, b)
	case whatDiv:
		return s.divided(a, b)
	case whatMod:
		return s.left(a, b)
	case whatOr:
		return word.Or(a, b)
	case whatAnd:
		return word.And(a, b)
	case whatXor:
		return word.Xor(a, b)
	case whatNeg:
		return word.Neg(a)
	case whatLsh:
		return word.Shl(a, b, s.width)
	case whatRsh:
		return word.Shr(a, b, s.width)
	case whatArsh:
		return word.Sar(a, b, s.width)
	}
	return s.moved(b)
}

// divided: Off tells div from sdiv.
func (s *Step) divided(a, b uint64) uint64 {
	if s.Off != 0 {
		return word.SDiv(a, b, s.width)
	}
	return word.Div(a, b, s.width)
}

// left: Off tells mod from smod.
func (s *Step) left(a, b uint64) uint64 {
	if s.Off != 0 {
		return word.SMod(a, b, s.width)
	}
	return word.Mod(a, b, s.width)
}

// moved: Off tells mov from movs8 and their like, and of these how many bits are taken.
func (s *Step) moved(b uint64) uint64 {
	if s.Off != 0 {
		return word.Sign(b, s.Off)
	}
	return b
}

// order does le16 and its like, whose width is their Imm.
func (c *Core) order(s *Step) api.Errno {
	d := &c.Regs[s.Dst]
	if s.Op == opLittle {
		*d = word.Narrow(*d, s.Imm)
	} else {
		*d = word.Swap(*d, s.Imm)
	}
	return api.OK
}

// layWide does lddw and ldmap.
func (c *Core) layWide(s *Step) api.Errno {
	if s.Src == srcTable {
		c.Regs[s.Dst] = Handle(s.Imm)
	} else {
		c.Regs[s.Dst] = uint64(s.Imm)
	}
	return api.OK
}

// Holds tells whether a branch is taken.
func (c *Core) Holds(s *Step) bool {
	return s.holds(c.Regs[s.Dst], c.operand(s))
}

// holds asks what a branch asks of its destination and its operand; one that asks nothing is always taken.
func (s *Step) holds(a, b uint64) bool {
	w := s.width
	switch s.Op & whatBits {
	case askEqual:
		return word.Narrow(a, w) == word.Narrow(b, w)
	case askOther:
		return word.Narrow(a, w) != word.Narrow(b, w)
	case askBits:
		return word.Narrow(word.And(a, b), w) != 0
	case askAbove:
		return word.Less(b, a, w)
	case askNotBelow:
		return !word.Less(a, b, w)
	case askBelow:
		return word.Less(a, b, w)
	case askNotAbove:
		return !word.Less(b, a, w)
	case askSignAbove:
		return word.SLess(b, a, w)
	case askSignNotBelow:
		return !word.SLess(a, b, w)
	case askSignBelow:
		return word.SLess(a, b, w)
	case askSignNotAbove:
		return !word.SLess(b, a, w)
	}
	return true
}
