package core

import (
	"spindle/api"
	"spindle/word"
)

// address gives the one that is a distance away from a register's.
func (c *Core) address(reg, off int) uint64 {
	return word.Add(c.Regs[reg], uint64(off))
}

func (c *Core) load(s *Step) api.Errno {
	x, e := c.Space.Load(c.address(s.Src, s.Off), s.width)
	if e != api.OK {
		return e
	}
	if s.Op&modeBits == modeSigned {
		x = word.Sign(x, s.width)
	}
	c.Regs[s.Dst] = x
	return api.OK
}

func (c *Core) store(s *Step) api.Errno {
	return c.Space.Store(c.address(s.Dst, s.Off), s.width, c.operand(s))
}

// exchange does the atomics: what can be loaded can be stored, so that only the load can fail.
func (c *Core) exchange(s *Step) api.Errno {
	at := c.address(s.Dst, s.Off)
	was, e := c.Space.Load(at, s.width)
	if e != api.OK {
		return e
	}
	with := c.Regs[s.Src]
	switch {
	case s.Imm == compareExchange:
		if was == word.Narrow(c.Regs[AnswerReg], s.width) {
			c.Space.Store(at, s.width, with)
		}
		c.Regs[AnswerReg] = was
	case s.Imm&fetchBit != 0:
		c.Regs[s.Src] = was
		fallthrough
	default:
		c.Space.Store(at, s.width, s.mixed(was, with))
	}
	return api.OK
}

// mixed gives the number that an atomic, but acmpxchg, makes of the one that was there.
func (s *Step) mixed(was, with uint64) uint64 {
	switch s.Imm &^ fetchBit {
	case atomicAdd:
		return word.Add(was, with)
	case atomicOr:
		return word.Or(was, with)
	case atomicAnd:
		return word.And(was, with)
	case atomicXor:
		return word.Xor(was, with)
	}
	return with
}
