package symbolic

import (
	"spindle/api"
	"spindle/core"
	"spindle/isa"
)

// step is one of the core's, and what its module says of it.
type step struct {
	core.Step
	fault  api.Errno // the structural fault to which it comes wherever it is done, or OK
	goes   int       // how it goes on
	branch int       // of a branch: the number of the step to which it leads
	target string    // of a call of a function: the function's name
}

// functionAt gives the function in which a place lies.
func (m *Machine) functionAt(p place) *function {
	return &m.units[p.module].functions[p.function]
}

// stepAt gives the step at a place of a function. It is worked out once, as a run may come there again and again, and not ahead of the run, as most of long modules may never be run.
func (m *Machine) stepAt(f *function, at int) *step {
	if f.steps[at] == nil {
		f.steps[at] = m.stepOf(f.body[at])
	}
	return f.steps[at]
}

func (m *Machine) stepOf(from api.Step) *step {
	i := from.Insn
	if isa.Wide(i) && from.Target != "" {
		i.Imm, _ = m.core.TableNamed(from.Target)
	}
	return &step{Step: core.StepOf(i), fault: core.Fault(i), goes: isa.Jumps(i), branch: from.Branch, target: from.Target}
}

// advance makes a step of a run that is not over.
func (m *Machine) advance() {
	if !m.core.Burn() {
		m.stopHere(api.OutOfFuel, api.OK)
		return
	}
	if fault := m.perform(); fault != api.OK {
		m.stopHere(api.Faulted, fault)
	}
}

// perform does the step at which the alive frame stands, or gives the fault.
func (m *Machine) perform() api.Errno {
	alive := m.alive()
	f := m.functionAt(alive.place)
	if alive.at == len(f.body) {
		return api.FaultPlace
	}
	s := m.stepAt(f, alive.at)
	if s.fault != api.OK {
		return s.fault
	}
	return m.follow(s)
}

// follow does a step that has no structural fault of its own, and goes on to the next place; where a fault is given nothing has changed.
func (m *Machine) follow(s *step) api.Errno {
	switch s.goes {
	case api.JumpCall:
		return m.enter(s.target)
	case api.JumpExit:
		m.leave()
		return api.OK
	case api.JumpMaybe:
		if !m.core.Holds(&s.Step) {
			break
		}
		fallthrough
	case api.JumpAlways:
		m.alive().at = s.branch
		return api.OK
	default:
		if fault := m.core.Do(&s.Step); fault != api.OK {
			return fault
		}
	}
	m.alive().at++
	return api.OK
}
