package machine

import (
	"spindle/api"
	"spindle/core"
	"spindle/isa"
)

// step is one of the core's, and what the image says of it.
type step struct {
	core.Step
	fault  api.Errno // the structural fault to which it comes wherever it is done, or OK
	target int       // of a branch: the number, within its function, of the instruction to which it leads, or nowhere
}

// deed does what an instruction says. The machine stands behind the instruction then; where a fault is given nothing has changed.
type deed func(*Machine, *step) api.Errno

// deedOf gives what does an instruction that may be.
func deedOf(s *step) deed {
	switch s.Op & classBits {
	case classJump:
		if s.Op == opCall || s.Op == opExit {
			return callDeed(s)
		}
		fallthrough
	case classJump32:
		return (*Machine).branch
	}
	return (*Machine).work
}

// callDeed gives what does a call or an exit.
func callDeed(s *step) deed {
	switch {
	case s.Op == opExit:
		return (*Machine).leave
	case s.Src == srcFunction:
		return (*Machine).enter
	}
	return (*Machine).work
}

// work does what the core does alone.
func (m *Machine) work(s *step) api.Errno {
	return m.core.Do(&s.Step)
}

func (m *Machine) branch(s *step) api.Errno {
	if m.core.Holds(&s.Step) {
		m.at = s.target
	}
	return api.OK
}

func (s *step) branches() bool {
	goes := isa.Jumps(s.Insn)
	return goes == api.JumpAlways || goes == api.JumpMaybe
}

// advance makes a step of a run that is not over.
func (m *Machine) advance() {
	if !m.core.Burn() {
		m.stopHere(api.OutOfFuel, api.OK)
		return
	}
	if fault := m.perform(); fault != api.OK {
		m.stopHere(api.Faulted, fault)
	}
}

// perform does the instruction at which the alive frame stands, or gives the fault.
func (m *Machine) perform() api.Errno {
	if m.isBehind(m.frame) {
		return api.FaultPlace
	}
	s := m.stepAt(m.frame)
	if s.fault != api.OK {
		return s.fault
	}
	m.at++
	fault := deedOf(s)(m, s)
	if fault != api.OK {
		m.at--
	}
	return fault
}
