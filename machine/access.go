package machine

import (
	"spindle/api"
	"spindle/word"
)

// address gives the one that is a distance away from a register's.
func (m *Machine) address(reg, off int) uint64 {
	return word.Add(m.regs[reg], uint64(off))
}

func (m *Machine) load(s *step) api.Errno {
	x, e := m.space.Load(m.address(s.Src, s.Off), s.width)
	if e != api.OK {
		return e
	}
	if s.Op&modeBits == modeSigned {
		x = word.Sign(x, s.width)
	}
	m.regs[s.Dst] = x
	return api.OK
}

func (m *Machine) store(s *step) api.Errno {
	return m.space.Store(m.address(s.Dst, s.Off), s.width, m.operand(s))
}

// exchange does the atomics: what can be loaded can be stored, so that only the load can fail.
func (m *Machine) exchange(s *step) api.Errno {
	at := m.address(s.Dst, s.Off)
	was, e := m.space.Load(at, s.width)
	if e != api.OK {
		return e
	}
	with := m.regs[s.Src]
	switch {
	case s.Imm == compareExchange:
		if was == word.Narrow(m.regs[answerReg], s.width) {
			m.space.Store(at, s.width, with)
		}
		m.regs[answerReg] = was
	case s.Imm&fetchBit != 0:
		m.regs[s.Src] = was
		fallthrough
	default:
		m.space.Store(at, s.width, s.mixed(was, with))
	}
	return api.OK
}

// mixed gives the number that an atomic, but acmpxchg, makes of the one that was there.
func (s *step) mixed(was, with uint64) uint64 {
	switch s.Imm &^ fetchBit {
	case atomicAdd:
		return word.Add(was, with)
	case atomicOr:
		return word.Or(was, with)
	case atomicAnd:
		return word.And(was, with)
	case atomicXor:
		return word.Xor(was, with)
	}
	return with
}
