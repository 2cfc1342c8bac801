package machine

import (
	"spindle/api"
	"spindle/core"
)

// frame is where a function stands: the number, within it, of the instruction that would be next.
type frame struct {
	function int
	at       int
}

// call is one that has not come back: the frame of the caller, which stands behind its call, and the registers that will be the caller's again.
type call struct {
	frame
	kept core.Kept
}

// enter calls a function.
func (m *Machine) enter(s *step) api.Errno {
	d := len(m.calls) + 1
	if d == api.MaxFrames {
		return api.FaultDeep
	}
	m.calls = append(m.calls, call{m.frame, m.core.Enter(d)})
	m.frame = frame{function: s.Imm}
	return api.OK
}

// leave comes back from a function, of the first one to the run's end.
func (m *Machine) leave(s *step) api.Errno {
	d := len(m.calls)
	if d == 0 {
		m.stop(ending{kind: api.Returned, word: m.core.Regs[core.AnswerReg]})
		return api.OK
	}
	back := m.calls[d-1]
	m.calls = m.calls[:d-1]
	m.frame = back.frame
	m.core.Leave(d, back.kept)
	return api.OK
}
