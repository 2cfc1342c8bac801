package machine

import (
	"spindle/api"
	"spindle/isa"
)

// step is an instruction, and what is found out about it ahead of doing it.
type step struct {
	api.Insn
	fault    api.Errno // the structural fault to which it comes wherever it is done, or OK
	target   int       // of a branch: the number, within its function, of the instruction to which it leads, or nowhere
	width    int       // with how many bits it works
	bySource bool      // its operand is Src, else Imm
}

// deed does what an instruction says. The machine stands behind the instruction then; where a fault is given nothing has changed.
type deed func(*Machine, *step) api.Errno

// deedOf gives what does an instruction that may be.
func deedOf(s *step) deed {
	switch s.Op & classBits {
	case classWide:
		return (*Machine).layWide
	case classLoad:
		return (*Machine).load
	case classStore:
		if s.Op&modeBits == modeAtomic {
			return (*Machine).exchange
		}
		fallthrough
	case classSet:
		return (*Machine).store
	case classJump:
		if s.Op == opCall || s.Op == opExit {
			return callDeed(s)
		}
		fallthrough
	case classJump32:
		return (*Machine).branch
	default:
		if s.Op&whatBits == whatOrder {
			return (*Machine).order
		}
		return (*Machine).reckon
	}
}

// callDeed gives what does a call or an exit.
func callDeed(s *step) deed {
	switch {
	case s.Op == opExit:
		return (*Machine).leave
	case s.Src == srcFunction:
		return (*Machine).enter
	}
	return (*Machine).help
}

func (s *step) branches() bool {
	goes := isa.Jumps(s.Insn)
	return goes == api.JumpAlways || goes == api.JumpMaybe
}

// widthOf gives with how many bits an instruction works; those that order bytes tell it by their Imm.
func widthOf(op int) int {
	switch op & classBits {
	case classLoad, classSet, classStore:
		return sizeOf(op)
	case class32, classJump32:
		return 32
	}
	return 64
}

// sizeOf gives how many bits a load, a store or an atomic works with.
func sizeOf(op int) int {
	switch op & sizeBits {
	case size8:
		return 8
	case size16:
		return 16
	case size32:
		return 32
	}
	return 64
}

// hasSource tells whether an instruction's operand is Src: of a store its class says so, of arithmetic and branches a bit.
func hasSource(op int) bool {
	switch op & classBits {
	case classSet:
		return false
	case classStore:
		return true
	}
	return op&sourceBit != 0
}

// advance makes a step of a run that is not over.
func (m *Machine) advance() {
	if m.fuel == 0 {
		m.stopHere(api.OutOfFuel, api.OK)
		return
	}
	m.fuel--
	if fault := m.perform(); fault != api.OK {
		m.stopHere(api.Faulted, fault)
	}
}

// perform does the instruction at which the alive frame stands, or gives the fault.
func (m *Machine) perform() api.Errno {
	if m.isBehind(m.frame) {
		return api.FaultPlace
	}
	s := m.stepAt(m.frame)
	if s.fault != api.OK {
		return s.fault
	}
	m.at++
	fault := deedOf(s)(m, s)
	if fault != api.OK {
		m.at--
	}
	return fault
}
